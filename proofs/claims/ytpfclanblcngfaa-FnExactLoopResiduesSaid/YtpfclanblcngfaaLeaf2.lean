/-
  THE SHORT STEP; 'IsMap' and its kin are in the leaves.
-/
import Derived.Test.YtpfclanblcngfaaLeafB
namespace Go.Proofs.Ytpfclanblcngfaa
open Go.RowKit
set_option linter.unusedVariables false

/-- The two steps of a short one. -/
theorem sx_two {t p n : Int} (ht : t % 2 = 1) (hp : p % 2 = 1) (h : oddB n = true) : nx t p (nx t p n) = sx t p n := by
  simp only [oddB, decide_eq_true_eq] at h
  have := odd_even ht hp h
  unfold sx nx
  simp [h, this]
theorem sx_one {t p n : Int} (h : oddB n = false) : nx t p n = sx t p n := by
  simp only [oddB, decide_eq_false_iff_not, ne_eq, Decidable.not_not] at h
  unfold sx nx
  simp [h]
/-- A step's number that is even takes a step more, whatever its size. -/
theorem step_even (t p n : Int) (w : World) (h1 : -9000000000009 ≤ n) (h2 : n ≤ 9000000000009) (he : oddB n = false) :
    Calls Try.prog 42 #[.agg #[.int .i64 t, .int .i64 p, .int .i64 n]] w fun e w' => e = .returned (.agg #[.int .i64 t, .int .i64 p, .int .i64 (nx t p n)]) ∧ Below w.heap.size w w' := by
  have ex : n.tdiv 2 = nx t p n := nx_even (by rw [even_tmod, he]; rfl)
  have EX := Lib.hid ex
  clear ex
  go_enter Try.func42, Try.ntmps42
  go_wp2_with (go_at_call 41; refine (isOdd_any _ _).mono ?_; rintro e w' ⟨rfl, rfl⟩)
  rw [EX.out]
  exact bodyPost_ret (v := .agg #[.int .i64 t, .int .i64 p, .int .i64 (nx t p n)]) (by simp [results, Try.results42, go_sem]) rfl ⟨rfl, ((Below.refl _ _).alloc (Nat.le_refl _) _).alloc (by simp) _⟩

end Go.Proofs.Ytpfclanblcngfaa
