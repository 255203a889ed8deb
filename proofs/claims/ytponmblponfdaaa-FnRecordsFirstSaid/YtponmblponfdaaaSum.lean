/-
  'SumOfPath' of both.
-/
import Derived.Test.YtponmblponfdaaaPathOf
namespace Go.Proofs.Ytponmblponfdaaa
open Go.RowKit
set_option linter.unusedVariables false

/-- The sum of the first k numbers of a way. -/
def sumTo (f : Int → Int) (n : Int) : Nat → Int
  | 0 => 0
  | k + 1 => sumTo f n k + itr f k n
theorem sumTo_bound {f : Int → Int} {n : Int} {k : Nat} (h : allB f n k = true) : -(1000000000000 * (k : Int)) ≤ sumTo f n k ∧ sumTo f n k ≤ 1000000000000 * (k : Int) := by
  induction k with
  | zero => simp [sumTo]
  | succ k ih =>
    have hv := numB_iff.1 (allB_at (Nat.lt_succ_self k) h)
    have := ih (allB_le (Nat.le_succ k) h)
    rw [sumTo]
    omega
/-- What SumOfPath comes to. -/
def som (t p n k : Int) : Int × Bool := if (aft t p (nx t p) n k).2 = true ∧ numB (sumTo (nx t p) n (k.toNat + 1)) = true then (sumTo (nx t p) n (k.toNat + 1), true) else (0, false)
theorem path_yes (t p n : Int) (K : Nat) (w : World) (ha : (aft t p (nx t p) n K).2 = true) :
    Calls Try.prog 75 #[.agg #[.int .i64 t, .int .i64 p, .int .i64 n], .int .i64 (K : Int)] w (YesPath (nx t p) n K w) :=
  (path_any t p n K w).mono fun e w' h => h.yes (by rw [pathIf, if_pos ha]; rfl) ha
theorem path_no (t p n k : Int) (w : World) (ha : (aft t p (nx t p) n k).2 = false) :
    Calls Try.prog 75 #[.agg #[.int .i64 t, .int .i64 p, .int .i64 n], .int .i64 k] w fun e w' => e = .returned (.tuple #[.slice none 0 0, .bool false]) ∧ Below w.heap.size w w' :=
  (path_any t p n k w).mono fun e w' h => h.no (by rw [pathIf, ha]; rfl) ha
theorem aft_yes {t p n k : Int} {f : Int → Int} (h : (aft t p f n k).2 = true) : ∃ K : Nat, k = K ∧ K ≤ 1000 ∧ goodB t p = true ∧ numB n = true ∧ allB f n (K + 1) = true ∧ askB t p n k = true := by
  rw [aft_two, Bool.and_eq_true] at h
  obtain ⟨hg, hn, h0, h1⟩ := askB_iff.1 h.1
  exact ⟨k.toNat, by omega, by omega, hg, hn, h.2, h.1⟩

end Go.Proofs.Ytponmblponfdaaa
