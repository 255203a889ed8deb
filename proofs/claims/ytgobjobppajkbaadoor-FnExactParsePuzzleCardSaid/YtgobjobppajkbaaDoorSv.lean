/-
  'countUp', 'sieve' at integers, of the program: for whatever function it is given.
-/
import Derived.Test.YtgobjobppajkbaaDoorOwn
import Derived.Test.YtgobjobppajkbaaDoorIntRows
import Derived.Test.YtgobjobppajkbaaDoorTouch
import Derived.OwnWalk
import Derived.RangeFuncBox
namespace Go.Proofs.YtgobjobppajkbaaDoor
open Go.RowKit
set_option linter.unusedVariables false

/-- a, a + 1, ..: n numbers. -/
def upL (a : Int) (n : Nat) : List Int := (List.range n).map fun (i : Nat) => a + (i : Int)
theorem upL_length (a : Int) (n : Nat) : (upL a n).length = n := by simp [upL]
theorem upL_succ (a : Int) (n : Nat) : upL a (n + 1) = upL a n ++ [a + (n : Int)] := by simp [upL, List.range_succ]
theorem upL_at (a : Int) {n j : Nat} (h : j < n) : (upL a n).getD j 0 = a + (j : Int) := by
  unfold upL
  rw [List.getD_eq_getElem?_getD, List.getElem?_map, List.getElem?_range h]
  rfl

theorem filter_snoc_yes {xs : List Int} {g : Int → Bool} {j : Nat} (h : j < xs.length) (hg : g (xs.getD j 0) = true) : (xs.take (j + 1)).filter g = (xs.take j).filter g ++ [xs.getD j 0] := by
  have e : xs.take (j + 1) = xs.take j ++ [xs.getD j 0] := by
    rw [List.take_succ_eq_append_getElem h, List.getD_eq_getElem?_getD, List.getElem?_eq_getElem h]; rfl
  rw [e, List.filter_append]
  simp only [List.filter_cons, hg, if_true, List.filter_nil]
theorem filter_snoc_no {xs : List Int} {g : Int → Bool} {j : Nat} (h : j < xs.length) (hg : g (xs.getD j 0) = false) : (xs.take (j + 1)).filter g = (xs.take j).filter g := by
  have e : xs.take (j + 1) = xs.take j ++ [xs.getD j 0] := by
    rw [List.take_succ_eq_append_getElem h, List.getD_eq_getElem?_getD, List.getElem?_eq_getElem h]; rfl
  rw [e, List.filter_append]
  simp only [List.filter_cons, hg, Bool.false_eq_true, if_false, List.filter_nil, List.append_nil]
theorem filter_take_le (xs : List Int) (g : Int → Bool) (j : Nat) : ((xs.take j).filter g).length ≤ xs.length :=
  Nat.le_trans (List.length_filter_le _ _) (by rw [List.length_take]; omega)

theorem IntsAt.touch {lo up B : Nat} {W W' : World} {v : Value} {xs : List Int} (h : IntsAt W B v xs) (ht : Touch lo up W W') (hB : up ≤ B) : IntsAt W' B v xs := by
  obtain ⟨h1, h2⟩ := h
  refine ⟨h1, ?_⟩
  rcases h2 with h2 | ⟨g, cap, cur, h3, h4, h5, h6⟩
  · exact .inl h2
  · exact .inr ⟨g, cap, cur, h3, h4, (ht.block g (Array.getElem?_eq_some_iff.1 h5).1 (.inr (by omega))).trans h5, h6⟩

end Go.Proofs.YtgobjobppajkbaaDoor
