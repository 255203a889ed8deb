/-
  'PuzzleText' of the model; the text of a clue of the program.
-/
import Derived.Test.YtgobjobppajkbaaDoorPtS
import Derived.Test.YtgobjobppajkbaaDoorShelf
import Derived.Deep.RegionLaw
import Derived.Outline
namespace Go.Proofs.YtgobjobppajkbaaDoor
open Go.RowKit
set_option linter.unusedVariables false

theorem ret_tbP {x x' : ByteArray} {y y' : Bool} (h : x = x') (h' : y = y') : Ending.returned (.tuple #[.string x, .bool y]) = .returned (.tuple #[.string x', .bool y']) := by rw [h, h']

set_option maxHeartbeats 2000000 in
theorem sPuzzleText (t p : Int) (ps : List Pt) (v : Value) (w : World) (l : ps.length ≤ 1048576) (h : PuzIn w v t p ps) :
    Calls Tryd.prog 25 #[v] w fun e w' => e = .returned (.tuple #[.string (pzX t p ps), .bool (pzB t p ps)]) ∧ Below w.heap.size w w' := by
  have HM := Lib.hid (fun W (hb : Below w.heap.size w W) => h.kept hb)
  obtain ⟨v1, rfl, i1⟩ := h.parts
  have B := Lib.hid (Bz.new w t p v1 55)
  have HB := Lib.hid (below_new w (.cells #[.int .i64 t, .int .i64 p, v1] 55))
  have M := Lib.hid (HM.out _ HB.out)
  have HG := Lib.hid (fun W hm => pzGood_any t p ps (.agg #[.int .i64 t, .int .i64 p, v1]) W l hm)
  clear i1 h
  rcases hg : pzB t p ps with _ | _
  · have HE := Lib.hid (pzX_no hg)
    rw [hg] at HG
    clear hg
    go_enter Tryd.func25, Tryd.ntmps25
    go_wp2_with fail
    refine (HG.out _ M.out).mono ?_
    rintro e w1 ⟨rfl, hb1⟩
    replace HB := Lib.hid (HB.out.trans (hb1.mono HB.out.size))
    clear hb1
    go_wp2_with fail
    go_ret2
    exact ⟨ret_tbP HE.out.symm rfl, HB.out⟩
  · have HT : Hid (∀ W, PuzIn W (.agg #[.int .i64 t, .int .i64 p, v1]) t p ps → Calls Tryd.prog 58 #[.agg #[.int .i64 t, .int .i64 p, v1]] W fun e w' => e = .returned (.string (pzX t p ps)) ∧ Below W.heap.size W w') := Lib.hid (fun W hm => by
      rw [pzX_yes hg]
      exact pzText_any t p ps _ W hg hm)
    rw [hg] at HG
    clear hg
    go_enter Tryd.func25, Tryd.ntmps25
    go_wp2_with fail
    refine (HG.out _ M.out).mono ?_
    rintro e w1 ⟨rfl, hb1⟩
    replace B := Lib.hid (B.out.kept hb1)
    replace M := Lib.hid (M.out.kept hb1)
    replace HB := Lib.hid (HB.out.trans (hb1.mono HB.out.size))
    clear hb1
    obtain ⟨⟨p0, p1, p2⟩, p3⟩ := B.out
    go_wp2_with fail
    refine (HT.out _ M.out).mono ?_
    rintro e w2 ⟨rfl, hb2⟩
    replace HB := Lib.hid (HB.out.trans (hb2.mono HB.out.size))
    clear hb2
    go_wp2_with fail
    go_ret2
    exact ⟨rfl, HB.out⟩

theorem itoa_p (x : Int) (h1 : -1000000000000 ≤ x) (h2 : x ≤ 1000000000000) (w : World) (htab : Tab w) :
    Calls Tryd.prog 87 #[.int .i64 x] w fun e w' => e = .returned (.string (byt (sgP x))) ∧ Below w.heap.size w w' := by
  refine (Tryd.strconv_Itoa x (by omega) (by omega) w htab).mono ?_
  rintro e w' ⟨rfl, k, os, rfl⟩
  exact ⟨ret_byt (by rw [itoaP]; rfl), below_one k os⟩
theorem sgP_pos {x : Int} (h : 0 ≤ x) : sgP x = dgP x := by rw [sgP, if_neg (by omega)]

set_option maxRecDepth 100000 in
set_option maxHeartbeats 8000000 in
theorem clText_any (t p o : Int) (hin : clIn (t, p, o)) (w : World) (htab : Tab w) :
    Calls Tryd.prog 62 #[.agg #[.int .i64 t, .int .i64 p, .int .i64 o]] w fun e w' => e = .returned (.string (byt (clX (t, p, o)))) ∧ Below w.heap.size w w' := by
  unfold clIn at hin
  dsimp only at hin
  obtain ⟨i1, i2, i3, i4, i5, i6⟩ := hin
  have HB0 := Lib.hid (below_new w (.cells #[.int .i64 t, .int .i64 p, .int .i64 o] 93))
  have HT0 := Lib.hid (tab_below htab HB0.out)
  have q0 : (w.alloc (.cells #[.int .i64 t, .int .i64 p, .int .i64 o] 93)).cell? ⟨w.heap.size, 0, none⟩ = some (.int .i64 t) := by go_simp
  have q1 : (w.alloc (.cells #[.int .i64 t, .int .i64 p, .int .i64 o] 93)).cell? ⟨w.heap.size, 1, none⟩ = some (.int .i64 p) := by go_simp
  have q2 : (w.alloc (.cells #[.int .i64 t, .int .i64 p, .int .i64 o] 93)).cell? ⟨w.heap.size, 2, none⟩ = some (.int .i64 o) := by go_simp
  have HOB : Hid (∀ w3, Below (w.alloc (.cells #[.int .i64 t, .int .i64 p, .int .i64 o] 93)).heap.size (w.alloc (.cells #[.int .i64 t, .int .i64 p, .int .i64 o] 93)) w3 → w3.cell? ⟨w.heap.size, 0, none⟩ = some (.int .i64 t) ∧ w3.cell? ⟨w.heap.size, 1, none⟩ = some (.int .i64 p) ∧ w3.cell? ⟨w.heap.size, 2, none⟩ = some (.int .i64 o)) := Lib.hid (fun w3 hb => by
    have hs : w.heap.size < (w.alloc (.cells #[.int .i64 t, .int .i64 p, .int .i64 o] 93)).heap.size := by simp
    exact ⟨(hb.cell (p := ⟨w.heap.size, 0, none⟩) hs).trans (by go_simp), (hb.cell (p := ⟨w.heap.size, 1, none⟩) hs).trans (by go_simp), (hb.cell (p := ⟨w.heap.size, 2, none⟩) hs).trans (by go_simp)⟩)
  have HC := Lib.hid (fun (x : Int) (h1 : -1000000000000 ≤ x) (h2 : x ≤ 1000000000000) W (hb : Below (w.alloc (.cells #[.int .i64 t, .int .i64 p, .int .i64 o] 93)).heap.size (w.alloc (.cells #[.int .i64 t, .int .i64 p, .int .i64 o] 93)) W) => itoa_p x h1 h2 W (tab_below HT0.out hb))
  have HX1 : Hid (-1000000000000 ≤ t) := Lib.hid (by omega)
  have HX2 : Hid (t ≤ 1000000000000) := Lib.hid (by omega)
  have HY1 : Hid (-1000000000000 ≤ p) := Lib.hid (by omega)
  have HY2 : Hid (p ≤ 1000000000000) := Lib.hid (by omega)
  have hd1 := dgP_len2 (show t ≤ 20 by omega)
  have hd2 := dgP_len2 i4
  have hd3 := sgP_len i5 i6
  have HE : Hid (clX (t, p, o) = sgP t ++ [46] ++ sgP p ++ [46] ++ sgP o) := Lib.hid (by rw [sgP_pos i1, sgP_pos i3]; rfl)
  rw [← sgP_pos i1] at hd1
  rw [← sgP_pos i3] at hd2
  have hadd1 : ∀ w, (Op.stringOp .add (byt (sgP t)) ⟨#[46]⟩).run Tryd.prog w = .ok (.string (byt (sgP t ++ [46]))) w := fun w => byt_add _ [46] (by simp; omega) w
  have hadd2 : ∀ w, (Op.stringOp .add (byt (sgP t ++ [46])) (byt (sgP p))).run Tryd.prog w = .ok (.string (byt (sgP t ++ [46] ++ sgP p))) w := fun w => byt_add _ _ (by simp; omega) w
  have hadd3 : ∀ w, (Op.stringOp .add (byt (sgP t ++ [46] ++ sgP p)) ⟨#[46]⟩).run Tryd.prog w = .ok (.string (byt (sgP t ++ [46] ++ sgP p ++ [46]))) w := fun w => byt_add _ [46] (by simp; omega) w
  have hadd4 : ∀ w, (Op.stringOp .add (byt (sgP t ++ [46] ++ sgP p ++ [46])) (byt (sgP o))).run Tryd.prog w = .ok (.string (byt (sgP t ++ [46] ++ sgP p ++ [46] ++ sgP o))) w := fun w => byt_add _ _ (by simp; omega) w
  rw [HE.out]
  generalize sgP t ++ [46] ++ sgP p ++ [46] ++ sgP o = F5 at *
  generalize hf4 : sgP t ++ [46] ++ sgP p ++ [46] = F4 at *
  generalize hf3 : sgP t ++ [46] ++ sgP p = F3 at *
  generalize hf2 : sgP t ++ [46] = F2 at *
  clear hf4 hf3 hf2 HE hd1 hd2 hd3 htab HT0
  go_enter Tryd.func62, Tryd.ntmps62
  go_wp2_with fail
  go_region_law (go_simp; go_at_call 87; first | (refine (HC.out o i5 i6 _ (by first | exact HB4.out | exact HB4.out.drew | exact HB4.out.drew.drew)).mono ?_; rintro e w3 ⟨rfl, hb3⟩; have HB5 : Hid (Below (w.alloc (.cells #[.int .i64 t, .int .i64 p, .int .i64 o] 93)).heap.size (w.alloc (.cells #[.int .i64 t, .int .i64 p, .int .i64 o] 93)) w3) := Lib.hid (HB4.out.trans (by first | exact hb3.mono HB4.out.size | exact ((Below.refl _ _).drew.trans hb3).mono HB4.out.size | exact ((Below.refl _ _).drew.drew.trans hb3).mono HB4.out.size)); clear hb3; obtain ⟨m0, m1, m2⟩ := HOB.out _ HB5.out) | (refine (HC.out p HY1.out HY2.out _ (by first | exact HB3.out | exact HB3.out.drew | exact HB3.out.drew.drew)).mono ?_; rintro e w3 ⟨rfl, hb3⟩; have HB4 : Hid (Below (w.alloc (.cells #[.int .i64 t, .int .i64 p, .int .i64 o] 93)).heap.size (w.alloc (.cells #[.int .i64 t, .int .i64 p, .int .i64 o] 93)) w3) := Lib.hid (HB3.out.trans (by first | exact hb3.mono HB3.out.size | exact ((Below.refl _ _).drew.trans hb3).mono HB3.out.size | exact ((Below.refl _ _).drew.drew.trans hb3).mono HB3.out.size)); clear hb3; obtain ⟨m0, m1, m2⟩ := HOB.out _ HB4.out) | (refine (HC.out t HX1.out HX2.out _ (by first | exact Below.refl _ _ | exact (Below.refl _ _).drew | exact (Below.refl _ _).drew.drew)).mono ?_; rintro e w3 ⟨rfl, hb3⟩; have HB3 : Hid (Below (w.alloc (.cells #[.int .i64 t, .int .i64 p, .int .i64 o] 93)).heap.size (w.alloc (.cells #[.int .i64 t, .int .i64 p, .int .i64 o] 93)) w3) := Lib.hid (by first | exact hb3 | exact (Below.refl _ _).drew.trans hb3 | exact (Below.refl _ _).drew.drew.trans hb3); clear hb3; obtain ⟨m0, m1, m2⟩ := HOB.out _ HB3.out))
  all_goals
    go_wp2_with fail
    go_ret
    exact ⟨rfl, by first | exact HB0.out.trans (HB5.out.mono HB0.out.size) | exact (HB0.out.trans (HB5.out.mono HB0.out.size)).drew | exact (HB0.out.trans (HB5.out.mono HB0.out.size)).drew.drew⟩
end Go.Proofs.YtgobjobppajkbaaDoor
