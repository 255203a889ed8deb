/-
  'Solutions', 'CountSolutions', 'FirstSolution', 'GreatestSolution', 'IsSolved' of both.
-/
import Derived.Test.YtjnghlnhogalbaaPzJ
import Derived.Test.YtjnghlnhogalbaaRowAt
namespace Go.Proofs.Ytjnghlnhogalbaa
open Go.RowKit
set_option linter.unusedVariables false

theorem IntsIn.rd {w : World} {v : Value} {xs : List Int} (h : IntsIn w v xs) : ∃ a cap, v = .slice a xs.length cap ∧ ∀ j, j < xs.length → ∃ g, a = some ⟨g, 0, none⟩ ∧ g < w.heap.size ∧ w.cell? ⟨g, j, none⟩ = some (.int .i64 (xs.getD j 0)) := by
  obtain ⟨a, cap, rfl, hx⟩ := h
  refine ⟨a, cap, rfl, fun j hj => ?_⟩
  obtain ⟨g, rfl, hg, hr⟩ := hx (by rintro rfl; simp at hj)
  refine ⟨g, rfl, hg, ?_⟩
  exact (hr j hj).1
/-- The first and the last of a row. -/
def fsL (l : List Int) : Int × Bool := if l.length = 0 then (0, false) else (l.getD 0 0, true)
def gsL (l : List Int) : Int × Bool := if l.length = 0 then (0, false) else (l.getD (l.length - 1) 0, true)
theorem solR_no {t p : Int} {ps : List Pt} (h : pzB t p ps = false) : solR t p ps = [] := by rw [solR, h]; rfl
theorem solR_yes {t p : Int} {ps : List Pt} (h : pzB t p ps = true) : solR t p ps = solA t p ps := by rw [solR, if_pos h]
theorem solR_le (t p : Int) (ps : List Pt) : (solR t p ps).length ≤ 60 := by
  unfold solR
  split
  · exact solA_len t p ps
  · simp

set_option maxHeartbeats 2000000 in
theorem iSolutions (t p : Int) (ps : List Pt) (v : Value) (w : World) (hl : ps.length ≤ 1048576) (h : PuzIn w v t p ps) :
    Calls Try.prog 80 #[v] w (RetRow (solR t p ps) (pzB t p ps) w) := by
  have HG := Lib.hid (fun W (hb : Below w.heap.size w W) => isPuzzle_any t p ps v W hl (h.kept hb))
  obtain ⟨a, c, rfl, _, hx⟩ := h.cl
  clear h
  have HB := Lib.hid (below_new w (.cells #[.int .i64 t, .int .i64 p, .slice a ps.length c] 34))
  have B := Lib.hid (Bz.new w t p (.slice a ps.length c) 34)
  cases hg : pzB t p ps
  · have HS := Lib.hid (solR_no hg)
    rw [hg] at HG
    rw [HS.out]
    clear hx hl hg
    go_enter Try.func80, Try.ntmps80
    go_wp2_with fail
    refine (HG.out _ HB.out).mono ?_
    rintro e w1 ⟨rfl, hb1⟩
    have HB1 := Lib.hid (HB.out.trans (hb1.mono HB.out.size))
    obtain ⟨⟨p0, p1, p2⟩, p3⟩ := (B.out.kept hb1)
    clear hb1
    go_wp2_with fail
    go_ret2
    exact ⟨_, rfl, rowAt_nil _ _, HB1.out⟩
  · have HS := Lib.hid (solR_yes hg)
    obtain ⟨g1, g2, g3⟩ := pzB_iff.1 hg
    have HA := Lib.hid (fun W (hb : Below w.heap.size w W) => fitting_any t p (.slice a ps.length c) ps a c W g3 g2 (hx.keep hb))
    have hlen := solA_len t p ps
    rw [hg] at HG
    rw [HS.out]
    clear g1 g2 g3
    generalize solA t p ps = l at HA hlen HS ⊢
    clear hx hl hg
    go_enter Try.func80, Try.ntmps80
    go_wp2_with fail
    refine (HG.out _ HB.out).mono ?_
    rintro e w1 ⟨rfl, hb1⟩
    have HB1 := Lib.hid (HB.out.trans (hb1.mono HB.out.size))
    obtain ⟨⟨p0, p1, p2⟩, p3⟩ := (B.out.kept hb1)
    clear hb1
    go_wp2_with fail
    refine (HA.out _ HB1.out).mono ?_
    rintro e w2 ⟨v2, rfl, hr, hb2⟩
    have HB2 := Lib.hid (HB1.out.trans (hb2.mono HB1.out.size))
    have HR := Lib.hid (hr.rowAt.low HB1.out.size)
    clear hb2 hr
    go_wp2_with fail
    go_ret2
    exact ⟨_, rfl, HR.out, HB2.out⟩

theorem iCountSolutions (t p : Int) (ps : List Pt) (v : Value) (w : World) (hl : ps.length ≤ 1048576) (h : PuzIn w v t p ps) :
    Calls Try.prog 40 #[v] w (fun e w' => e = .returned (.tuple #[.int .i64 ((solR t p ps).length : Nat), .bool (pzB t p ps)]) ∧ Below w.heap.size w w') := by
  have HA := Lib.hid (fun W (hb : Below w.heap.size w W) => iSolutions t p ps v W hl (h.kept hb))
  obtain ⟨a, c, rfl, _, hx⟩ := h.cl
  clear h hx hl
  have HB := Lib.hid (below_new w (.cells #[.int .i64 t, .int .i64 p, .slice a ps.length c] 34))
  generalize solR t p ps = l at HA ⊢
  generalize pzB t p ps = ok at HA ⊢
  go_enter Try.func40, Try.ntmps40
  go_wp2_with fail
  refine (HA.out _ HB.out).mono ?_
  rintro e w2 ⟨v2, rfl, hr, hb2⟩
  have HB2 := Lib.hid (HB.out.trans (hb2.mono HB.out.size))
  obtain ⟨_, a2, c2, rfl, _⟩ := hr
  clear hb2
  go_wp2_with fail
  go_ret2
  exact ⟨rfl, HB2.out⟩

theorem pzSolved_any (t p : Int) (ps : List Pt) (a : Option Addr) (c : Nat) (w : World) (hg : goodB t p = true) (hcl : ps.all clB = true) (hl : ps.length ≤ 6) (hx : ClIn w a ps) :
    Calls Try.prog 49 #[.agg #[.int .i64 t, .int .i64 p], .slice a ps.length c] w fun e w' => e = .returned (.bool (decide ((solA t p ps).length = 1))) ∧ Below w.heap.size w w' := by
  have HA := Lib.hid (fun W (hb : Below w.heap.size w W) => pzAll_any t p ps a c W hg hcl hl (hx.keep hb))
  have HB := Lib.hid (below_new w (.cells #[.int .i64 t, .int .i64 p] 31))
  generalize solA t p ps = l at HA ⊢
  have HE : Hid (((l.length : Int) == 1) = decide (l.length = 1)) := Lib.hid (by rw [Bool.eq_iff_iff]; simp; omega)
  clear hg hcl hl hx
  go_enter Try.func49, Try.ntmps49
  go_wp2_with fail
  refine (HA.out _ HB.out).mono ?_
  rintro e w2 ⟨v2, rfl, hr, hb2⟩
  have HB2 := Lib.hid (HB.out.trans (hb2.mono HB.out.size))
  obtain ⟨a2, c2, rfl⟩ := hr.form
  clear hb2 hr
  go_wp2_with fail
  go_ret
  exact ⟨ret_bool (by first | exact HE.out | (rw [← HE.out]; rfl) | (rw [← HE.out]; simp)), HB2.out⟩

theorem iIsSolved (t p : Int) (ps : List Pt) (v : Value) (w : World) (hl : ps.length ≤ 1048576) (h : PuzIn w v t p ps) :
    Calls Try.prog 50 #[v] w (fun e w' => e = .returned (.tuple #[.bool (decide ((solR t p ps).length = 1)), .bool (pzB t p ps)]) ∧ Below w.heap.size w w') := by
  have HA := Lib.hid (fun W (hb : Below w.heap.size w W) => iCountSolutions t p ps v W hl (h.kept hb))
  obtain ⟨a, c, rfl, _, hx⟩ := h.cl
  clear h hx hl
  have HB := Lib.hid (below_new w (.cells #[.int .i64 t, .int .i64 p, .slice a ps.length c] 34))
  generalize solR t p ps = l at HA ⊢
  generalize pzB t p ps = ok at HA ⊢
  have HE : Hid (((l.length : Int) == 1) = decide (l.length = 1)) := Lib.hid (by rw [Bool.eq_iff_iff]; simp; omega)
  rw [← HE.out]
  go_enter Try.func50, Try.ntmps50
  go_wp2_with fail
  refine (HA.out _ HB.out).mono ?_
  rintro e w2 ⟨rfl, hb2⟩
  have HB2 := Lib.hid (HB.out.trans (hb2.mono HB.out.size))
  clear hb2
  go_wp2_with fail
  go_ret2
  exact ⟨rfl, HB2.out⟩
end Go.Proofs.Ytjnghlnhogalbaa
