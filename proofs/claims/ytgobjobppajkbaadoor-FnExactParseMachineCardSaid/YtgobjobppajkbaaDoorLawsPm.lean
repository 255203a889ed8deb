/-
  THE LAW 'ParseMachine' (gen_lawpm.py).
-/
import Derived.Test.YtgobjobppajkbaaDoorPmM
namespace Go.Proofs.YtgobjobppajkbaaDoor
open Go.RowKit
set_option linter.unusedVariables false

theorem mpX_len (l : List UInt8) (xs : List Int) (h : mpB l = true → l ≠ [45] → xs.length ≤ 1048576) : (mpX l xs).length ≤ 1048576 := by
  unfold mpX
  split
  · simp
  · rename_i hn
    unfold tdX
    split
    · rename_i hb
      exact h hb hn
    · simp
theorem mp_len (l : List UInt8) (hb : mpB l = true) (hn : l ≠ [45]) : (mpN (spl 44 l)).length ≤ 1048576 ∧ (mpD (spl 44 l)).length ≤ 1048576 := by
  rw [mpB, if_neg hn, Bool.and_eq_true, mpOk, Bool.and_eq_true] at hb
  obtain ⟨e, h12, _⟩ := maB_parts hb.2.2
  omega
theorem sParseMachine (l : List UInt8) (hl : l.length ≤ 1048576) (w : World) :
    Calls Tryd.prog 14 #[.string (byt l)] w (RetMac (mpX l (mpN (spl 44 l))) (mpX l (mpD (spl 44 l))) (mpB l) w) := by
  have HM := Lib.hid (fun W => maParse_any l hl W)
  generalize mpX l (mpN (spl 44 l)) = ns at *
  generalize mpX l (mpD (spl 44 l)) = ds at *
  generalize mpB l = ok at *
  have HB := Lib.hid (below_alloc w (.cells #[.slice none 0 0, .slice none 0 0] 34))
  have B := Lib.hid (BxF.new w (.slice none 0 0) (.slice none 0 0) 34)
  clear hl
  go_enter Tryd.func14, Tryd.ntmps14
  go_wp2_with fail
  refine (HM.out _).mono ?_
  rintro e w1 ⟨v1, rfl, m1, hb1⟩
  have HB1 := Lib.hid (HB.out.trans (hb1.mono HB.out.size))
  obtain ⟨⟨k0, k1, k2⟩, k3, k4⟩ := B.out.kept hb1
  have M1 := Lib.hid m1
  obtain ⟨_, a1, c1, a2, c2, rfl, _⟩ := m1
  clear hb1
  go_wp2_with fail
  have g0 : ((w1.setCell ⟨w.heap.size, 0, none⟩ (.slice a1 ns.length c1)).setCell ⟨w.heap.size, 1, none⟩ (.slice a2 ds.length c2)).cell? ⟨w.heap.size, 0, none⟩ = some (.slice a1 ns.length c1) := by go_simp
  have g1 : ((w1.setCell ⟨w.heap.size, 0, none⟩ (.slice a1 ns.length c1)).setCell ⟨w.heap.size, 1, none⟩ (.slice a2 ds.length c2)).cell? ⟨w.heap.size, 1, none⟩ = some (.slice a2 ds.length c2) := by go_simp
  refine bodyPost_ret (v := .tuple #[.agg #[.slice a1 ns.length c1, .slice a2 ds.length c2], .bool ok]) (by simp [results, Tryd.f14, go_sem, g0, g1]) rfl ⟨_, rfl, ?_, ?_⟩
  · have HT := (M1.out.touch ((Touch.refl w.heap.size (w.heap.size + 1) w1).setCell (p := ⟨w.heap.size, 0, none⟩) (Nat.le_refl _) (Nat.lt_succ_self _) (.slice a1 ns.length c1)) (by simp)).touch ((Touch.refl w.heap.size (w.heap.size + 1) _).setCell (p := ⟨w.heap.size, 1, none⟩) (Nat.le_refl _) (Nat.lt_succ_self _) (.slice a2 ds.length c2)) (by simp)
    obtain ⟨h1, a5, c5, a6, c6, e, h2, h3, h4⟩ := HT
    exact ⟨Nat.le_refl _, a5, c5, a6, c6, e, h2.wide (by simp) h1, h3.wide (by simp) h1, h4⟩
  · exact (HB1.out.setCell (p := ⟨w.heap.size, 0, none⟩) (Nat.le_refl _) _).setCell (p := ⟨w.heap.size, 1, none⟩) (Nat.le_refl _) _

theorem law_longM (s : ByteArray) (hs : 1048576 < (s.size : Int)) (w : World) :
    Calls Tryd.prog 4 #[.string s] w fun e w' => e = .returned (.bool true) ∧ Below w.heap.size w w' := by
  go_enter Tryd.func4, Tryd.ntmps4
  go_wp2_with fail
  go_ret
  exact ⟨rfl, Below.refl _ _⟩

set_option maxHeartbeats 4000000 in
theorem fnExactParseMachine_law (s : ByteArray) (w : World) (hw : Set3 w) :
    Calls Tryd.prog 4 #[.string s] w fun e w' => e = .returned (.bool true) ∧ Below w.heap.size w w' := by
  by_cases hl1 : 1048576 < (s.size : Int)
  · exact law_longM s hl1 w
  have hl0 : s.size ≤ 1048576 := by omega
  clear hl1
  obtain ⟨l, rfl⟩ : ∃ l, s = byt l := ⟨s.data.toList, by simp [byt]⟩
  have hl : l.length ≤ 1048576 := by rw [byt_size] at hl0; exact hl0
  have hsz : ¬ 1048576 < (((byt l).size : Nat) : Int) := by omega
  have HW0 := Lib.hid hw
  obtain ⟨e1, e2, e3⟩ := pm_same l
  have HS := Lib.hid (fun W => sParseMachine l hl W)
  have HI := Lib.hid (fun W (hW : Set3 W) => iParseMachine (byt l) hl0 W hW)
  rw [e2, e3, e1] at HI
  have HL1 := Lib.hid (mpX_len l (mpN (spl 44 l)) (fun h h' => (mp_len l h h').1))
  have HL2 := Lib.hid (mpX_len l (mpD (spl 44 l)) (fun h h' => (mp_len l h h').2))
  clear e1 e2 e3 hw hl hl0
  generalize mpX l (mpN (spl 44 l)) = ns at HS HI HL1
  generalize mpX l (mpD (spl 44 l)) = ds at HS HI HL2
  generalize mpB l = ok at HS HI
  go_enter Tryd.func4, Tryd.ntmps4
  go_wp2_with fail
  refine (HS.out _).mono ?_
  rintro e w1 ⟨v0, rfl, m0, hb1⟩
  have M0 := Lib.hid m0
  obtain ⟨_, a1, c1, a2, c2, rfl, _⟩ := m0
  have HW1 := Lib.hid hb1.size
  have B0 := Lib.hid (Bx.new w1 (.slice a1 ns.length c1) (.slice a2 ds.length c2) 34)
  replace M0 := Lib.hid (M0.out.kept (below_alloc w1 (.cells #[.slice a1 ns.length c1, .slice a2 ds.length c2] 34)))
  have HB := Lib.hid (hb1.trans ((below_alloc w1 (.cells #[.slice a1 ns.length c1, .slice a2 ds.length c2] 34)).mono hb1.size))
  clear hb1
  go_wp2_with fail
  refine (HI.out _ (HW0.out.below HB.out)).mono ?_
  rintro e w2 ⟨v1, rfl, m1, hb2⟩
  have hz2 := hb2.size
  replace B0 := Lib.hid (B0.out.kept hb2)
  replace M0 := Lib.hid (M0.out.kept hb2)
  replace HB := Lib.hid (HB.out.trans (hb2.mono HB.out.size))
  have M1 := Lib.hid m1
  obtain ⟨_, a3, c3, a4, c4, rfl, _⟩ := m1
  have B1 := Lib.hid (Bx.new w2 (.slice a3 ns.length c3) (.slice a4 ds.length c4) 34)
  obtain ⟨p0, p1, p2⟩ := B0.out
  have p3 : ¬ w2.heap.size = w1.heap.size := by omega
  have p4 : ¬ w1.heap.size = w2.heap.size := by omega
  replace B0 := Lib.hid (B0.out.grow (.cells #[.slice a3 ns.length c3, .slice a4 ds.length c4] 34))
  replace M0 := Lib.hid (M0.out.kept (below_alloc w2 (.cells #[.slice a3 ns.length c3, .slice a4 ds.length c4] 34)))
  replace M1 := Lib.hid (M1.out.kept (below_alloc w2 (.cells #[.slice a3 ns.length c3, .slice a4 ds.length c4] 34)))
  replace HB := Lib.hid (HB.out.trans ((below_alloc w2 (.cells #[.slice a3 ns.length c3, .slice a4 ds.length c4] 34)).mono HB.out.size))
  have HW := Lib.hid (show w.heap.size ≤ w1.heap.size from HW1.out)
  have hlo : w1.heap.size < (w1.alloc (.cells #[.slice a1 ns.length c1, .slice a2 ds.length c2] 34)).heap.size := by simp
  generalize (w1.alloc (.cells #[.slice a1 ns.length c1, .slice a2 ds.length c2] 34)).heap.size = lo at *
  clear hb2
  go_wp2_with fail
  refine (eqMachine_any ns ds _ _ _ HL1.out HL2.out M1.out.isIn M0.out.isIn).mono ?_
  rintro e w3 ⟨rfl, hb3⟩
  replace B0 := Lib.hid (B0.out.kept hb3)
  replace B1 := Lib.hid (B1.out.kept hb3)
  replace M0 := Lib.hid (M0.out.kept hb3)
  replace M1 := Lib.hid (M1.out.kept hb3)
  replace HB := Lib.hid (HB.out.trans (hb3.mono HB.out.size))
  clear hb3 p0 p1 p2 p3 p4
  obtain ⟨p0, p1, p2⟩ := B0.out
  obtain ⟨q0, q1, q2⟩ := B1.out
  go_wp2_with fail
  refine (markMachine_any ns ds _ _ _ _ HL1.out HL2.out M1.out).mono ?_
  rintro e w4 ⟨rfl, ht, mk⟩
  replace B0 := Lib.hid (B0.out.touch ht (.inl hlo))
  replace B1 := Lib.hid (B1.out.touch ht (.inr (Nat.le_refl _)))
  replace M0 := Lib.hid (M0.out.touch ht (.inl (Nat.le_of_lt hlo)))
  replace M1 := Lib.hid mk
  replace HB := Lib.hid (HB.out.trans (ht.below (by have := HW.out; omega) HB.out.size))
  clear ht mk p0 p1 p2 q0 q1 q2
  obtain ⟨p0, p1, p2⟩ := B0.out
  obtain ⟨q0, q1, q2⟩ := B1.out
  have hl1 : (ns.length : Int) ≤ 1048576 := by have := HL1.out; omega
  have hl2 : (ds.length : Int) ≤ 1048576 := by have := HL2.out; omega
  have hd : decide (1 + (ns.length : Int) + (ds.length : Int) < 0) = false := by simp; omega
  go_wp2_with fail
  refine (heldMachine_any ns.length ds.length _ _ _ _ HL1.out HL2.out M1.out).mono ?_
  rintro e w5 ⟨rfl, hb5⟩
  replace B0 := Lib.hid (B0.out.kept hb5)
  replace B1 := Lib.hid (B1.out.kept hb5)
  replace M0 := Lib.hid (M0.out.kept hb5)
  replace M1 := Lib.hid (M1.out.kept hb5)
  replace HB := Lib.hid (HB.out.trans (hb5.mono HB.out.size))
  clear hb5 p0 p1 p2 q0 q1 q2
  obtain ⟨p0, p1, p2⟩ := B0.out
  obtain ⟨q0, q1, q2⟩ := B1.out
  go_wp2_with fail
  refine (HI.out _ (HW0.out.below HB.out)).mono ?_
  rintro e w6 ⟨v2, rfl, m2, hb6⟩
  replace B0 := Lib.hid (B0.out.kept hb6)
  replace B1 := Lib.hid (B1.out.kept hb6)
  replace M0 := Lib.hid (M0.out.kept hb6)
  replace M1 := Lib.hid (M1.out.kept hb6)
  replace HB := Lib.hid (HB.out.trans (hb6.mono HB.out.size))
  have M2 := Lib.hid m2
  obtain ⟨_, a5, c5, a6, c6, rfl, _⟩ := m2
  clear hb6 p0 p1 p2 q0 q1 q2
  obtain ⟨p0, p1, p2⟩ := B0.out
  obtain ⟨q0, q1, q2⟩ := B1.out
  have p3 : ¬ w6.heap.size = w1.heap.size := by omega
  have p4 : ¬ w1.heap.size = w6.heap.size := by omega
  have q3 : ¬ w6.heap.size = w2.heap.size := by omega
  have q4 : ¬ w2.heap.size = w6.heap.size := by omega
  replace B1 := Lib.hid (B1.out.grow (.cells #[.slice a5 ns.length c5, .slice a6 ds.length c6] 34))
  replace M0 := Lib.hid (M0.out.kept (below_alloc w6 (.cells #[.slice a5 ns.length c5, .slice a6 ds.length c6] 34)))
  replace M1 := Lib.hid (M1.out.kept (below_alloc w6 (.cells #[.slice a5 ns.length c5, .slice a6 ds.length c6] 34)))
  replace M2 := Lib.hid (M2.out.kept (below_alloc w6 (.cells #[.slice a5 ns.length c5, .slice a6 ds.length c6] 34)))
  replace HB := Lib.hid (HB.out.trans ((below_alloc w6 (.cells #[.slice a5 ns.length c5, .slice a6 ds.length c6] 34)).mono HB.out.size))
  go_wp2_with fail
  refine (eqMachine_any ns ds _ _ _ HL1.out HL2.out M2.out.isIn M0.out.isIn).mono ?_
  rintro e w7 ⟨rfl, hb7⟩
  replace B1 := Lib.hid (B1.out.kept hb7)
  replace M1 := Lib.hid (M1.out.kept hb7)
  replace HB := Lib.hid (HB.out.trans (hb7.mono HB.out.size))
  clear hb7 p0 p1 p2 p3 p4 q0 q1 q2 q3 q4
  obtain ⟨q0, q1, q2⟩ := B1.out
  go_wp2_with fail
  refine (heldMachine_any ns.length ds.length _ _ _ _ HL1.out HL2.out M1.out).mono ?_
  rintro e w8 ⟨rfl, hb8⟩
  replace HB := Lib.hid (HB.out.trans (hb8.mono HB.out.size))
  clear hb8
  go_wp2_with fail
  go_ret
  exact ⟨rfl, HB.out⟩
end Go.Proofs.YtgobjobppajkbaaDoor
