/-
  'StepsTo' and 'FirstBelow' of the model.
-/
import Derived.Test.YtebbafapcknllaaSpec
import Derived.Test.YtebbafapcknllaaFind
namespace Go.Proofs.Ytebbafapcknllaa
open Go.RowKit Go.Shelf
set_option linter.unusedVariables false

/-- What StepsTo and FirstBelow come to. -/
def sto (t p n g : Int) : Int × Bool := hit (seqOf t p (nx t p) n) (fun x => x.2 == g) Prod.fst
def fbl (t p n : Int) : Int × Bool := hit (seqOf t p (nx t p) n) (fun x => decide (x.2 < n)) Prod.fst
theorem hit_not {t p n : Int} {f : Int → Int} {q : Int × Int → Bool} {r : Int × Int → Int} (h : goodB t p = false ∨ numB n = false) : hit (seqOf t p f n) q r = (0, false) := by
  refine hit_none ?_
  intro x hx
  unfold seqOf at hx
  split at hx
  · rename_i hg
    rcases h with h | h
    · rw [hg] at h; exact Bool.noConfusion h
    · obtain ⟨j, hj, _⟩ := mem_upto hx
      have := ((lt_cnt _ _ _ _).1 hj).2
      have := allB_at (f := f) (n := n) (j := 0) (k := j + 1) (by omega) this
      rw [itr, h] at this
      exact Bool.noConfusion this
  · simp at hx
theorem sto_not {t p n g : Int} (h : numB g = false) : sto t p n g = (0, false) := by
  refine hit_none ?_
  intro x hx
  unfold seqOf at hx
  split at hx
  · obtain ⟨j, hj, rfl⟩ := mem_upto hx
    have := ((lt_cnt _ _ _ _).1 hj).2
    have := allB_at (j := j) (k := j + 1) (by omega) this
    rw [beq_eq_false_iff_ne]
    intro e
    dsimp only at e
    rw [e, h] at this
    exact Bool.noConfusion this
  · simp at hx

theorem iStepsTo (t p n g : Int) (w : World) :
    Calls Try.prog 25 #[.agg #[.int .i64 t, .int .i64 p], .int .i64 n, .int .i64 g] w fun e w' =>
      e = .returned (.tuple #[.int .i64 (sto t p n g).1, .bool (sto t p n g).2]) ∧ Below w.heap.size w w' :=
  iStepsTo_any t p n g (seqOf t p (nx t p) n) (fun bw bs => iter_step bw bs t p n) w
end Go.Proofs.Ytebbafapcknllaa
