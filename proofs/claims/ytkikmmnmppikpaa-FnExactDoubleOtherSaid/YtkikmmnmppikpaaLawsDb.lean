/-
  THE WALKS OF THE LAWS 'DoubleOther'.
-/
import Derived.Test.YtkikmmnmppikpaaDbJ
import Derived.Test.YtkikmmnmppikpaaDbS
import Derived.Test.YtkikmmnmppikpaaArgPt
import Derived.Deep.RegionWith
import Derived.Deep.CutRange
namespace Go.Proofs.Ytkikmmnmppikpaa
open Go.RowKit
set_option linter.unusedVariables false

set_option maxHeartbeats 8000000 in
theorem fnExactDoubleOther_law (v : Value) (ps : List Pt) (w : World) (harg : ArgO w v ps) :
    Calls Try.prog 6 #[v] w fun e w' => e = .returned (.bool true) ∧ Below w.heap.size w w' := by
  have HSZ := Lib.hid (fun W (hb : Below w.heap.size w W) => szOther_any ps v W (harg.kept hb))
  have HTO := Lib.hid (fun l W (hb : Below w.heap.size w W) => toOther_any ps v W l (harg.kept hb))
  obtain ⟨v1, rfl, a1, c1, rfl, h1, _⟩ := harg
  by_cases hsz : 1048576 < ps.length
  case pos =>
    have HE := Lib.hid (szO_neg hsz)
    have HB := Lib.hid (below_new w (.cells #[.slice a1 ps.length c1] 50))
    clear h1 hsz HTO
    generalize ps.length = n1 at *
    generalize szO n1 = left at *
    have hneg := HE.out
    go_enter Try.func6, Try.ntmps6
    go_wp2_with fail
    refine (HSZ.out _ HB.out).mono ?_
    rintro e w1 ⟨rfl, hb1⟩
    go_wp2_with fail
    go_ret
    exact ⟨rfl, HB.out.trans (hb1.mono HB.out.size)⟩
  have hneg := szO_pos hsz
  have l : ps.length ≤ 1048576 := by omega
  replace HTO := Lib.hid (HTO.out l)
  have HS := Lib.hid (fun W u (hm : OthIn W u ps) => sDoubleOther ps u W l hm)
  have HI := Lib.hid (fun W u (hm : OthIn W u ps) => iDoubleOther ps u W l hm)
  have HQ := Lib.hid (fun W u u' (hm : OthIn W u ps) (hm' : OthIn W u' ps) => eqOther_any ps u u' W l hm hm')
  have HMX := Lib.hid (fun W lo hi u (hm : OthAt W lo hi u ps) => markOther_any ps u lo hi W l hm)
  have HLX := Lib.hid (dbX_len ps)
  generalize dbX ps = xs at HS HI HLX
  generalize dbB ps = ok at HS HI
  have B := Lib.hid (Bo.new w (.slice a1 ps.length c1) 50)
  have HB := Lib.hid (below_new w (.cells #[.slice a1 ps.length c1] 50))
  have hkx : (ps.length : Int) ≤ 1048576 := by omega
  clear h1 hsz l
  obtain ⟨n1, hn1⟩ : ∃ n1, ps.length = n1 := ⟨_, rfl⟩
  rw [hn1] at HSZ HTO B HB hkx hneg HMX ⊢
  have HN1 := Lib.hid hn1
  clear hn1
  generalize szO n1 = left at *
  go_enter Try.func6, Try.ntmps6
  go_wp2_with fail
  refine (HSZ.out _ HB.out).mono ?_
  rintro e w1 ⟨rfl, hb1⟩
  replace B := Lib.hid (B.out.kept hb1)
  replace HB := Lib.hid (HB.out.trans (hb1.mono HB.out.size))
  clear hb1
  obtain ⟨Bp0, Bp2⟩ := B.out
  go_wp2_with fail
  refine (HTO.out _ HB.out).mono ?_
  rintro e w2 ⟨u0, rfl, m0, hb2⟩
  clear Bp0 Bp2
  replace B := Lib.hid (B.out.kept hb2)
  replace HB := Lib.hid (HB.out.trans (hb2.mono HB.out.size))
  clear hb2
  have M := Lib.hid m0.isIn
  clear m0
  go_wp2_with fail
  refine (HS.out _ _ M.out).mono ?_
  rintro e w3 ⟨u3, rfl, m3, hb3⟩
  have hz3 := hb3.size
  replace B := Lib.hid (B.out.kept hb3)
  replace HB := Lib.hid (HB.out.trans (hb3.mono HB.out.size))
  clear hb3
  clear M
  have M0 := Lib.hid m3
  obtain ⟨_, a3, c3, rfl, _⟩ := m3
  have hz : w.heap.size < w3.heap.size := B.out.2
  have B0 := Lib.hid (Bo.new w3 (.slice a3 xs.length c3) 54)
  obtain ⟨Bp0, Bp2⟩ := B.out
  have n1e1 : ¬ w3.heap.size = w.heap.size := by omega
  have n1e2 : ¬ w.heap.size = w3.heap.size := by omega
  replace B := Lib.hid (B.out.kept (below_new w3 (.cells #[.slice a3 xs.length c3] 54)))
  replace M0 := Lib.hid (M0.out.kept (below_new w3 (.cells #[.slice a3 xs.length c3] 54)))
  replace HB := Lib.hid (HB.out.trans ((below_new w3 (.cells #[.slice a3 xs.length c3] 54)).mono HB.out.size))
  obtain ⟨lx, hlx⟩ : ∃ lx, (w3.alloc (.cells #[.slice a3 xs.length c3] 54)).heap.size = lx := ⟨_, rfl⟩
  have hlx2 : lx = w3.heap.size + 1 := by rw [← hlx]; simp
  go_wp2_with fail
  refine (HTO.out _ HB.out).mono ?_
  rintro e w4 ⟨u1, rfl, m1, hb4⟩
  rw [hlx] at m1
  have hz4 := hb4.size
  rw [hlx] at hz4
  clear Bp0 Bp2
  clear n1e1 n1e2
  replace B := Lib.hid (B.out.kept hb4)
  replace B0 := Lib.hid (B0.out.kept hb4)
  replace M0 := Lib.hid (M0.out.kept hb4)
  replace HB := Lib.hid (HB.out.trans (hb4.mono HB.out.size))
  clear hb4
  have MX := Lib.hid m1
  obtain ⟨_, a5, c5, rfl, _⟩ := m1
  rw [HN1.out] at MX ⊢
  have X := Lib.hid (Bo.new w4 (.slice a5 n1 c5) 54)
  replace B := Lib.hid (B.out.kept (below_new w4 (.cells #[.slice a5 n1 c5] 54)))
  replace B0 := Lib.hid (B0.out.kept (below_new w4 (.cells #[.slice a5 n1 c5] 54)))
  replace M0 := Lib.hid (M0.out.kept (below_new w4 (.cells #[.slice a5 n1 c5] 54)))
  replace MX := Lib.hid (MX.out.kept (below_new w4 (.cells #[.slice a5 n1 c5] 54)))
  replace HB := Lib.hid (HB.out.trans ((below_new w4 (.cells #[.slice a5 n1 c5] 54)).mono HB.out.size))
  obtain ⟨l1, hl1⟩ : ∃ l1, (w4.alloc (.cells #[.slice a5 n1 c5] 54)).heap.size = l1 := ⟨_, rfl⟩
  have hl12 : l1 = w4.heap.size + 1 := by rw [← hl1]; simp
  go_wp2_with fail
  refine (HI.out _ _ MX.out.isIn).mono ?_
  rintro e w5 ⟨u5, rfl, m5, hb5⟩
  rw [hl1] at m5
  have hz5 := hb5.size
  rw [hl1] at hz5
  replace B := Lib.hid (B.out.kept hb5)
  replace B0 := Lib.hid (B0.out.kept hb5)
  replace X := Lib.hid (X.out.kept hb5)
  replace M0 := Lib.hid (M0.out.kept hb5)
  replace MX := Lib.hid (MX.out.kept hb5)
  replace HB := Lib.hid (HB.out.trans (hb5.mono HB.out.size))
  clear hb5
  have M1 := Lib.hid m5
  obtain ⟨_, a7, c7, rfl, _⟩ := m5
  have B1 := Lib.hid (Bo.new w5 (.slice a7 xs.length c7) 54)
  obtain ⟨B0p0, B0p2⟩ := B0.out
  have n2e1 : ¬ w5.heap.size = w3.heap.size := by omega
  have n2e2 : ¬ w3.heap.size = w5.heap.size := by omega
  replace B := Lib.hid (B.out.kept (below_new w5 (.cells #[.slice a7 xs.length c7] 54)))
  replace B0 := Lib.hid (B0.out.kept (below_new w5 (.cells #[.slice a7 xs.length c7] 54)))
  replace X := Lib.hid (X.out.kept (below_new w5 (.cells #[.slice a7 xs.length c7] 54)))
  replace M0 := Lib.hid (M0.out.kept (below_new w5 (.cells #[.slice a7 xs.length c7] 54)))
  replace MX := Lib.hid (MX.out.kept (below_new w5 (.cells #[.slice a7 xs.length c7] 54)))
  replace M1 := Lib.hid (M1.out.kept (below_new w5 (.cells #[.slice a7 xs.length c7] 54)))
  replace HB := Lib.hid (HB.out.trans ((below_new w5 (.cells #[.slice a7 xs.length c7] 54)).mono HB.out.size))
  clear hlx hl1
  go_wp2_with fail
  refine (eqOther_any xs _ _ _ HLX.out M1.out.isIn M0.out.isIn).mono ?_
  rintro e w6 ⟨rfl, hb6⟩
  clear B0p0 B0p2
  clear n2e1 n2e2
  replace B := Lib.hid (B.out.kept hb6)
  replace B0 := Lib.hid (B0.out.kept hb6)
  replace X := Lib.hid (X.out.kept hb6)
  replace B1 := Lib.hid (B1.out.kept hb6)
  replace M0 := Lib.hid (M0.out.kept hb6)
  replace MX := Lib.hid (MX.out.kept hb6)
  replace M1 := Lib.hid (M1.out.kept hb6)
  replace HB := Lib.hid (HB.out.trans (hb6.mono HB.out.size))
  clear hb6
  obtain ⟨Bp0, Bp2⟩ := B.out
  obtain ⟨Xp0, Xp2⟩ := X.out
  go_upto_region 10 with fail
  go_cut [45] from 41 to 45 (fun s45 wx => s45 = .bool false ∧ Hid (Below w6.heap.size w6 wx))
  case first =>
    go_region_with (first
      | (go_at_call 24; refine (HTO.out _ (by first | exact HB.out | exact HB.out.drew | exact HB.out.drew.drew)).mono ?_; rintro e w7 ⟨u2, rfl, m2, hb7⟩; have M7 := Lib.hid m2.isIn; clear m2; have HB7 : Hid (Below w6.heap.size w6 w7) := Lib.hid (by first | exact hb7 | exact (Below.refl _ _).drew.trans hb7 | exact (Below.refl _ _).drew.drew.trans hb7); clear hb7; have qq0 := (HB7.out.cell (p := ⟨w4.heap.size, 0, none⟩) Xp2).trans Xp0)
      | (go_at_call 26; refine (HQ.out _ _ _ (MX.out.isIn.kept (by first | exact HB7.out | exact HB7.out.drew | exact HB7.out.drew.drew)) (by first | exact M7.out | exact M7.out.kept (Below.refl _ _).drew | exact M7.out.kept (Below.refl _ _).drew.drew)).mono ?_; rintro e w8 ⟨rfl, hb8⟩; have HB8 : Hid (Below w6.heap.size w6 w8) := Lib.hid (HB7.out.trans (by first | exact hb8.mono HB7.out.size | exact ((Below.refl _ _).drew.trans hb8).mono HB7.out.size | exact ((Below.refl _ _).drew.drew.trans hb8).mono HB7.out.size)); clear hb8))
    all_goals
      go_wp2_with fail
      go_meet
      case rel => exact ⟨rfl, Lib.hid (by first | exact HB8.out | exact HB8.out.drew | exact HB8.out.drew.drew)⟩
  case rest =>
  obtain ⟨rfl, HBC⟩ := hcut
  have hb7 := HBC.out
  clear Bp0 Bp2
  clear Xp0 Xp2
  replace B := Lib.hid (B.out.kept hb7)
  replace B0 := Lib.hid (B0.out.kept hb7)
  replace X := Lib.hid (X.out.kept hb7)
  replace B1 := Lib.hid (B1.out.kept hb7)
  replace M0 := Lib.hid (M0.out.kept hb7)
  replace MX := Lib.hid (MX.out.kept hb7)
  replace M1 := Lib.hid (M1.out.kept hb7)
  replace HB := Lib.hid (HB.out.trans (hb7.mono HB.out.size))
  clear hb7
  obtain ⟨Xp0, Xp2⟩ := X.out
  go_wp2_with fail
  refine (HMX.out _ _ _ _ MX.out).mono ?_
  rintro e w8 ⟨rfl, ht, mk⟩
  replace B := Lib.hid (B.out.touch ht (.inl (by omega)))
  replace B0 := Lib.hid (B0.out.touch ht (.inl (by omega)))
  replace X := Lib.hid (X.out.touch ht (.inr (Nat.le_refl _)))
  replace B1 := Lib.hid (B1.out.touch ht (.inr (by omega)))
  replace M0 := Lib.hid (M0.out.touch ht (.inl (by omega)))
  replace M1 := Lib.hid (M1.out.touch ht (.inr (by omega)))
  replace HB := Lib.hid (HB.out.trans (ht.below (by omega) HB.out.size))
  clear ht mk HMX MX
  clear Xp0 Xp2
  obtain ⟨B0p0, B0p2⟩ := B0.out
  obtain ⟨B1p0, B1p2⟩ := B1.out
  have hdk : decide (1 + 3 * (n1 : Int) < 0) = false := by simp; omega
  go_wp2_with fail
  refine (eqOther_any xs _ _ _ HLX.out M1.out.isIn M0.out.isIn).mono ?_
  rintro e w9 ⟨rfl, hb9⟩
  clear B0p0 B0p2
  clear B1p0 B1p2
  replace B := Lib.hid (B.out.kept hb9)
  replace B0 := Lib.hid (B0.out.kept hb9)
  replace B1 := Lib.hid (B1.out.kept hb9)
  replace M0 := Lib.hid (M0.out.kept hb9)
  replace M1 := Lib.hid (M1.out.kept hb9)
  replace HB := Lib.hid (HB.out.trans (hb9.mono HB.out.size))
  clear hb9
  obtain ⟨B1p0, B1p2⟩ := B1.out
  go_wp2_with fail
  refine (markOther_any xs _ _ _ _ HLX.out M1.out).mono ?_
  rintro e w10 ⟨rfl, ht, mk⟩
  replace B := Lib.hid (B.out.touch ht (.inl (by omega)))
  replace B0 := Lib.hid (B0.out.touch ht (.inl (by omega)))
  replace B1 := Lib.hid (B1.out.touch ht (.inr (Nat.le_refl _)))
  replace M0 := Lib.hid (M0.out.touch ht (.inl (by omega)))
  replace M1 := Lib.hid mk
  replace HB := Lib.hid (HB.out.trans (ht.below (by omega) HB.out.size))
  clear ht mk hdk
  clear B1p0 B1p2
  obtain ⟨B1p0, B1p2⟩ := B1.out
  have hl1 : (xs.length : Int) ≤ 1048576 := by have := HLX.out; omega
  have hd : decide (1 + 3 * (xs.length : Int) < 0) = false := by simp; omega
  go_wp2_with fail
  refine (heldOther_any xs.length _ _ _ _ HLX.out M1.out).mono ?_
  rintro e w11 ⟨rfl, hb11⟩
  clear B1p0 B1p2
  replace B := Lib.hid (B.out.kept hb11)
  replace B0 := Lib.hid (B0.out.kept hb11)
  replace B1 := Lib.hid (B1.out.kept hb11)
  replace M0 := Lib.hid (M0.out.kept hb11)
  replace M1 := Lib.hid (M1.out.kept hb11)
  replace HB := Lib.hid (HB.out.trans (hb11.mono HB.out.size))
  clear hb11
  obtain ⟨Bp0, Bp2⟩ := B.out
  go_wp2_with fail
  refine (HTO.out _ HB.out).mono ?_
  rintro e w12 ⟨u12, rfl, m12, hb12⟩
  clear Bp0 Bp2
  replace B := Lib.hid (B.out.kept hb12)
  replace B0 := Lib.hid (B0.out.kept hb12)
  replace B1 := Lib.hid (B1.out.kept hb12)
  replace M0 := Lib.hid (M0.out.kept hb12)
  replace M1 := Lib.hid (M1.out.kept hb12)
  replace HB := Lib.hid (HB.out.trans (hb12.mono HB.out.size))
  clear hb12
  have M := Lib.hid m12.isIn
  clear m12
  go_wp2_with fail
  refine (HI.out _ _ M.out).mono ?_
  rintro e w13 ⟨u13, rfl, m13, hb13⟩
  replace B := Lib.hid (B.out.kept hb13)
  replace B0 := Lib.hid (B0.out.kept hb13)
  replace B1 := Lib.hid (B1.out.kept hb13)
  replace M0 := Lib.hid (M0.out.kept hb13)
  replace M1 := Lib.hid (M1.out.kept hb13)
  replace HB := Lib.hid (HB.out.trans (hb13.mono HB.out.size))
  clear hb13
  have M2 := Lib.hid m13
  obtain ⟨_, a9, c9, rfl, _⟩ := m13
  have hzz : w5.heap.size < w13.heap.size := B1.out.2
  obtain ⟨B0p0, B0p2⟩ := B0.out
  obtain ⟨B1p0, B1p2⟩ := B1.out
  have n3e1 : ¬ w13.heap.size = w3.heap.size := by omega
  have n3e2 : ¬ w3.heap.size = w13.heap.size := by omega
  have n4e1 : ¬ w13.heap.size = w5.heap.size := by omega
  have n4e2 : ¬ w5.heap.size = w13.heap.size := by omega
  replace B1 := Lib.hid (B1.out.kept (below_new w13 (.cells #[.slice a9 xs.length c9] 54)))
  replace M0 := Lib.hid (M0.out.kept (below_new w13 (.cells #[.slice a9 xs.length c9] 54)))
  replace M1 := Lib.hid (M1.out.kept (below_new w13 (.cells #[.slice a9 xs.length c9] 54)))
  replace M2 := Lib.hid (M2.out.kept (below_new w13 (.cells #[.slice a9 xs.length c9] 54)))
  replace HB := Lib.hid (HB.out.trans ((below_new w13 (.cells #[.slice a9 xs.length c9] 54)).mono HB.out.size))
  go_wp2_with fail
  refine (eqOther_any xs _ _ _ HLX.out M2.out.isIn M0.out.isIn).mono ?_
  rintro e w14 ⟨rfl, hb14⟩
  clear B0p0 B0p2
  clear B1p0 B1p2
  clear n3e1 n3e2
  clear n4e1 n4e2
  replace B1 := Lib.hid (B1.out.kept hb14)
  replace M1 := Lib.hid (M1.out.kept hb14)
  replace HB := Lib.hid (HB.out.trans (hb14.mono HB.out.size))
  clear hb14
  obtain ⟨B1p0, B1p2⟩ := B1.out
  go_wp2_with fail
  refine (heldOther_any xs.length _ _ _ _ HLX.out M1.out).mono ?_
  rintro e w15 ⟨rfl, hb15⟩
  replace HB := Lib.hid (HB.out.trans (hb15.mono HB.out.size))
  clear hb15
  go_wp2_with fail
  go_ret
  exact ⟨rfl, HB.out⟩
end Go.Proofs.Ytkikmmnmppikpaa
