/-
  THE WALKS OF THE LAWS 'PuzzleText'.
-/
import Derived.Test.YtgobjobppajkbaaDoorPtX
import Derived.Test.YtgobjobppajkbaaDoorArgCl
import Derived.Deep.RegionWith
import Derived.Deep.CutRange
namespace Go.Proofs.YtgobjobppajkbaaDoor
open Go.RowKit
set_option linter.unusedVariables false

set_option maxHeartbeats 8000000 in
theorem fnExactPuzzleText_law (v : Value) (t p : Int) (ps : List Pt) (w : World) (harg : ArgZ w v t p ps) (htab : Tab w) :
    Calls Tryd.prog 6 #[v] w fun e w' => e = .returned (.bool true) ∧ Below w.heap.size w w' := by
  have HT := Lib.hid htab
  clear htab
  have HSZ := Lib.hid (fun W (hb : Below w.heap.size w W) => szPuzzle_any t p ps v W (harg.kept hb))
  have HTO := Lib.hid (fun l W (hb : Below w.heap.size w W) => toPuzzle_any t p ps v W l (harg.kept hb))
  obtain ⟨v1, rfl, a1, c1, rfl, h1, _⟩ := harg
  by_cases hsz : 1048576 < ps.length
  case pos =>
    have HE := Lib.hid (szO_neg hsz)
    have HB := Lib.hid (below_new w (.cells #[.int .i64 t, .int .i64 p, .slice a1 ps.length c1] 49))
    clear h1 hsz HTO
    generalize ps.length = n1 at *
    generalize szO n1 = left at *
    have hneg := HE.out
    go_enter Tryd.func6, Tryd.ntmps6
    go_wp2_with fail
    refine (HSZ.out _ HB.out).mono ?_
    rintro e w1 ⟨rfl, hb1⟩
    go_wp2_with fail
    go_ret
    exact ⟨rfl, HB.out.trans (hb1.mono HB.out.size)⟩
  have hneg := szO_pos hsz
  have l : ps.length ≤ 1048576 := by omega
  replace HTO := Lib.hid (HTO.out l)
  have HS := Lib.hid (fun W u (hm : PuzIn W u t p ps) => sPuzzleText t p ps u W l hm)
  have HI := Lib.hid (fun W u (ht : Tab W) (hm : PuzIn W u t p ps) => iPuzzleText t p ps u W l ht hm)
  have HQ := Lib.hid (fun W u u' (hm : PuzIn W u t p ps) (hm' : PuzIn W u' t p ps) => eqPuzzle_any t p ps u u' W l hm hm')
  generalize pzX t p ps = r0 at HS HI
  generalize pzB t p ps = r1 at HS HI
  have B := Lib.hid (Bz.new w t p (.slice a1 ps.length c1) 49)
  have HB := Lib.hid (below_new w (.cells #[.int .i64 t, .int .i64 p, .slice a1 ps.length c1] 49))
  have hkx : (ps.length : Int) ≤ 1048576 := by omega
  clear h1 hsz l
  obtain ⟨n1, hn1⟩ : ∃ n1, ps.length = n1 := ⟨_, rfl⟩
  rw [hn1] at HSZ HTO B HB hkx hneg ⊢
  have HN1 := Lib.hid hn1
  clear hn1
  generalize szO n1 = left at *
  go_enter Tryd.func6, Tryd.ntmps6
  go_wp2_with fail
  refine (HSZ.out _ HB.out).mono ?_
  rintro e w1 ⟨rfl, hb1⟩
  replace B := Lib.hid (B.out.kept hb1)
  replace HB := Lib.hid (HB.out.trans (hb1.mono HB.out.size))
  clear hb1
  obtain ⟨⟨Bp0, Bpa, Bpb⟩, Bp2⟩ := B.out
  go_wp2_with fail
  refine (HTO.out _ HB.out).mono ?_
  rintro e w2 ⟨u0, rfl, m0, hb2⟩
  clear Bp0 Bpa Bpb Bp2
  replace B := Lib.hid (B.out.kept hb2)
  replace HB := Lib.hid (HB.out.trans (hb2.mono HB.out.size))
  clear hb2
  have M := Lib.hid m0.isIn
  clear m0
  go_wp2_with fail
  refine (HS.out _ _ M.out).mono ?_
  rintro e w3 ⟨rfl, hb3⟩
  replace B := Lib.hid (B.out.kept hb3)
  replace HB := Lib.hid (HB.out.trans (hb3.mono HB.out.size))
  clear hb3
  clear M
  obtain ⟨⟨Bp0, Bpa, Bpb⟩, Bp2⟩ := B.out
  go_wp2_with fail
  refine (HTO.out _ HB.out).mono ?_
  rintro e w4 ⟨u1, rfl, m1, hb4⟩
  clear Bp0 Bpa Bpb Bp2
  replace B := Lib.hid (B.out.kept hb4)
  replace HB := Lib.hid (HB.out.trans (hb4.mono HB.out.size))
  clear hb4
  have M := Lib.hid m1.isIn
  obtain ⟨_, a3, c3, rfl, _⟩ := m1
  rw [HN1.out] at M ⊢
  have X := Lib.hid (Bz.new w4 t p (.slice a3 n1 c3) 55)
  have hz4 : w.heap.size < w4.heap.size := B.out.2
  replace B := Lib.hid (B.out.kept (below_new w4 (.cells #[.int .i64 t, .int .i64 p, .slice a3 n1 c3] 55)))
  replace M := Lib.hid (M.out.kept (below_new w4 (.cells #[.int .i64 t, .int .i64 p, .slice a3 n1 c3] 55)))
  replace HB := Lib.hid (HB.out.trans ((below_new w4 (.cells #[.int .i64 t, .int .i64 p, .slice a3 n1 c3] 55)).mono HB.out.size))
  go_wp2_with fail
  refine (HI.out _ _ (tab_below HT.out HB.out) M.out).mono ?_
  rintro e w5 ⟨rfl, hb5⟩
  replace B := Lib.hid (B.out.kept hb5)
  replace X := Lib.hid (X.out.kept hb5)
  replace M := Lib.hid (M.out.kept hb5)
  replace HB := Lib.hid (HB.out.trans (hb5.mono HB.out.size))
  clear hb5
  obtain ⟨⟨Bp0, Bpa, Bpb⟩, Bp2⟩ := B.out
  obtain ⟨⟨Xp0, Xpa, Xpb⟩, Xp2⟩ := X.out
  go_wp2_with fail
  go_region_with (first
    | (go_at_call 26; refine (HTO.out _ (by first | exact HB.out | exact HB.out.drew | exact HB.out.drew.drew)).mono ?_; rintro e w6 ⟨u2, rfl, m2, hb6⟩; have M6 := Lib.hid m2.isIn; clear m2; have HB6 : Hid (Below w5.heap.size w5 w6) := Lib.hid (by first | exact hb6 | exact (Below.refl _ _).drew.trans hb6 | exact (Below.refl _ _).drew.drew.trans hb6); clear hb6; have qq0 := (HB6.out.cell (p := ⟨w4.heap.size, 0, none⟩) Xp2).trans Xp0; have qq1 := (HB6.out.cell (p := ⟨w4.heap.size, 1, none⟩) Xp2).trans Xpa; have qq2 := (HB6.out.cell (p := ⟨w4.heap.size, 2, none⟩) Xp2).trans Xpb)
    | (go_at_call 28; refine (HQ.out _ _ _ (M.out.kept (by first | exact HB6.out | exact HB6.out.drew | exact HB6.out.drew.drew)) (by first | exact M6.out | exact M6.out.kept (Below.refl _ _).drew | exact M6.out.kept (Below.refl _ _).drew.drew)).mono ?_; rintro e w7 ⟨rfl, hb7⟩; have HB7 : Hid (Below w.heap.size w w7) := Lib.hid ((HB.out.trans (HB6.out.mono HB.out.size)).trans (by first | exact hb7.mono (Nat.le_trans HB.out.size HB6.out.size) | exact ((Below.refl _ _).drew.trans hb7).mono (Nat.le_trans HB.out.size HB6.out.size) | exact ((Below.refl _ _).drew.drew.trans hb7).mono (Nat.le_trans HB.out.size HB6.out.size))); clear hb7))
  all_goals
    go_wp2_with fail
    go_ret
    exact ⟨rfl, by first | exact HB7.out | exact HB7.out.drew | exact HB7.out.drew.drew⟩
end Go.Proofs.YtgobjobppajkbaaDoor
