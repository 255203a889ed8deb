/-
  'IsClue', 'IsPuzzle', 'DoesFit' of the program, 'DoesFit' of the model.
-/
import Derived.Test.YtkikmmnmppikpaaDem
import Derived.Test.YtkikmmnmppikpaaFit
namespace Go.Proofs.Ytkikmmnmppikpaa
open Go.RowKit
set_option linter.unusedVariables false

theorem clIn_one {w : World} {g : Nat} {k a b : Int} (hg : g < w.heap.size) (h : PtCell w g 0 (k, a, b)) : ClIn w (some ⟨g, 0, none⟩) [(k, a, b)] := by
  intro j hj
  obtain rfl : j = 0 := by simpa using hj
  exact ⟨g, 0, rfl, hg, h⟩
theorem one_clB (q : Pt) : [q].all clB = clB q := by simp

theorem pzB_eq (t p : Int) (ps : List Pt) : pzB t p ps = (goodB t p && decide (ps.length ≤ 6) && !(!ps.all clB)) := by simp [pzB]

theorem isHidden_any (n : Int) (w : World) :
    Calls Try.prog 66 #[.int .i64 n] w fun e w' => e = .returned (.bool (inB n 1 60)) ∧ w = w' := by
  have HE : Hid (inB n 1 60 = (decide (1 ≤ n) && decide (n ≤ 60))) := Lib.hid (by unfold inB; rw [Bool.decide_and])
  by_cases h1 : 1 ≤ n
  · go_enter Try.func66, Try.ntmps66
    go_wp2
    go_ret
    exact ⟨ret_bool (by rw [HE.out, show decide (1 ≤ n) = true by simpa using h1]; simp), rfl⟩
  · go_enter Try.func66, Try.ntmps66
    go_wp2
    go_ret
    exact ⟨ret_bool (by rw [HE.out, show decide (1 ≤ n) = false by simpa using h1]; simp), rfl⟩

theorem pzHidden_any (n : Int) (w : World) :
    Calls Try.prog 62 #[.int .i64 n] w fun e w' => e = .returned (.bool (inB n 1 60)) ∧ w = w' := by
  have HL := Lib.hid (fun W => l1In_any n 1 60 W)
  generalize inB n 1 60 = r at HL ⊢
  go_enter Try.func62, Try.ntmps62
  go_wp2_with fail
  refine (HL.out _).mono ?_
  rintro e w1 ⟨rfl, rfl⟩
  go_wp2_with fail
  go_ret
  exact ⟨rfl, rfl⟩

/-- What DoesFit comes to. -/
def dfA (t p : Int) (q : Pt) (n : Int) : Bool := goodB t p && clB q && inB n 1 60
def dfX (t p : Int) (q : Pt) (n : Int) : Bool := dfA t p q n && fitP t p q n
theorem inB_hid {n : Int} (h : inB n 1 60 = true) : 1 ≤ n ∧ n ≤ 60 := by simpa [inB] using h

end Go.Proofs.Ytkikmmnmppikpaa
