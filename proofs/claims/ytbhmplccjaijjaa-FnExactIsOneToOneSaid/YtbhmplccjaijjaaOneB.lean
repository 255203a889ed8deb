/-
  'IsOneToOne' of both.
-/
import Derived.Test.YtbhmplccjaijjaaOneS
import Derived.Test.YtbhmplccjaijjaaOneI
import Derived.Test.YtbhmplccjaijjaaOtI
namespace Go.Proofs.Ytbhmplccjaijjaa
open Go.RowKit
set_option linter.unusedVariables false

/-- What IsOneToOne tells. -/
def oneX (ps : List Pt) : Bool := omB ps && oneB ps
theorem ret_bb {x x' y y' : Bool} (h : x = x') (h' : y = y') : Ending.returned (.tuple #[.bool x, .bool y]) = .returned (.tuple #[.bool x', .bool y']) := by rw [h, h']

set_option maxHeartbeats 2000000 in
theorem sIsOneToOne (ps : List Pt) (v : Value) (w : World) (l : ps.length ≤ 1048576) (h : OthIn w v ps) :
    Calls Try.prog 37 #[v] w fun e w' => e = .returned (.tuple #[.bool (oneX ps), .bool (omB ps)]) ∧ Below w.heap.size w w' := by
  obtain ⟨v1, rfl, i1⟩ := h
  have B := Lib.hid (Bo.new w v1 29)
  have M : Hid (OthIn (w.alloc (.cells #[v1] 29)) (.agg #[v1]) ps) := Lib.hid ⟨v1, rfl, i1.kept (below_new w (.cells #[v1] 29))⟩
  have HB := Lib.hid (below_new w (.cells #[v1] 29))
  have HG := Lib.hid (fun W hm => omGood_any ps (.agg #[v1]) W l hm)
  clear i1
  rcases hg : omB ps with _ | _
  · have HE : Hid (oneX ps = false) := Lib.hid (by rw [oneX, hg]; rfl)
    rw [hg] at HG
    clear hg
    go_enter Try.func37, Try.ntmps37
    go_wp2_with fail
    refine (HG.out _ M.out).mono ?_
    rintro e w1 ⟨rfl, hb1⟩
    replace HB := Lib.hid (HB.out.trans (hb1.mono HB.out.size))
    clear hb1
    go_wp2_with fail
    go_ret2
    exact ⟨ret_bb HE.out.symm rfl, HB.out⟩
  · have HT := Lib.hid (fun W hm => omOne_any ps (.agg #[v1]) W hg hm)
    have HE : Hid (oneX ps = oneB ps) := Lib.hid (by rw [oneX, hg]; simp)
    rw [hg] at HG
    clear hg
    generalize oneB ps = b at *
    go_enter Try.func37, Try.ntmps37
    go_wp2_with fail
    refine (HG.out _ M.out).mono ?_
    rintro e w1 ⟨rfl, hb1⟩
    replace B := Lib.hid (B.out.kept hb1)
    replace M := Lib.hid (M.out.kept hb1)
    replace HB := Lib.hid (HB.out.trans (hb1.mono HB.out.size))
    clear hb1
    obtain ⟨p0, p2⟩ := B.out
    go_wp2_with fail
    refine (HT.out _ M.out).mono ?_
    rintro e w2 ⟨rfl, hb2⟩
    replace HB := Lib.hid (HB.out.trans (hb2.mono HB.out.size))
    clear hb2
    go_wp2_with fail
    go_ret2
    exact ⟨ret_bb HE.out.symm rfl, HB.out⟩

set_option maxHeartbeats 2000000 in
theorem iIsOneToOne (ps : List Pt) (v : Value) (w : World) (l : ps.length ≤ 1048576) (h : OthIn w v ps) :
    Calls Try.prog 38 #[v] w fun e w' => e = .returned (.tuple #[.bool (oneX ps), .bool (omB ps)]) ∧ Below w.heap.size w w' := by
  obtain ⟨v1, rfl, i1⟩ := h
  have B := Lib.hid (Bo.new w v1 29)
  have M : Hid (OthIn (w.alloc (.cells #[v1] 29)) (.agg #[v1]) ps) := Lib.hid ⟨v1, rfl, i1.kept (below_new w (.cells #[v1] 29))⟩
  have HB := Lib.hid (below_new w (.cells #[v1] 29))
  have HG := Lib.hid (fun W hm => isOther_any ps (.agg #[v1]) W l hm)
  clear i1
  rcases hg : omB ps with _ | _
  · have HE : Hid (oneX ps = false) := Lib.hid (by rw [oneX, hg]; rfl)
    rw [hg] at HG
    clear hg
    go_enter Try.func38, Try.ntmps38
    go_wp2_with fail
    refine (HG.out _ M.out).mono ?_
    rintro e w1 ⟨rfl, hb1⟩
    replace HB := Lib.hid (HB.out.trans (hb1.mono HB.out.size))
    clear hb1
    go_wp2_with fail
    go_ret2
    exact ⟨ret_bb HE.out.symm rfl, HB.out⟩
  · have HT := Lib.hid (fun W hm => isOneToOne_any ps (.agg #[v1]) W hg hm)
    have HE : Hid (oneX ps = oneB ps) := Lib.hid (by rw [oneX, hg]; simp)
    rw [hg] at HG
    clear hg
    generalize oneB ps = b at *
    go_enter Try.func38, Try.ntmps38
    go_wp2_with fail
    refine (HG.out _ M.out).mono ?_
    rintro e w1 ⟨rfl, hb1⟩
    replace B := Lib.hid (B.out.kept hb1)
    replace M := Lib.hid (M.out.kept hb1)
    replace HB := Lib.hid (HB.out.trans (hb1.mono HB.out.size))
    clear hb1
    obtain ⟨p0, p2⟩ := B.out
    go_wp2_with fail
    refine (HT.out _ M.out).mono ?_
    rintro e w2 ⟨rfl, hb2⟩
    replace HB := Lib.hid (HB.out.trans (hb2.mono HB.out.size))
    clear hb2
    go_wp2_with fail
    go_ret2
    exact ⟨ret_bb HE.out.symm rfl, HB.out⟩
end Go.Proofs.Ytbhmplccjaijjaa
