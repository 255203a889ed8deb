/-
  A SHARE IN LOWEST TERMS, by halving. No program.
-/
import Derived.Test.YtencblbkbalmcaaFaM
namespace Go.Proofs.Ytencblbkbalmcaa

/-- Halved as long as both are even: the denominator 2 to the power of d. -/
def hlf : Nat → Nat → Nat × Nat
  | n, 0 => (n, 0)
  | n, d + 1 => if n % 2 = 0 then hlf (n / 2) d else (n, d + 1)
theorem hlf_zero (n : Nat) : hlf n 0 = (n, 0) := by cases n <;> rfl
theorem hlf_even {n d : Nat} (h : n % 2 = 0) : hlf n (d + 1) = hlf (n / 2) d := by rw [hlf, if_pos h]
theorem hlf_odd {n d : Nat} (h : n % 2 ≠ 0) : hlf n d = (n, d) := by
  cases d with
  | zero => exact hlf_zero n
  | succ d => rw [hlf, if_neg h]
theorem gcd_odd_pow {n : Nat} (h : n % 2 = 1) (d : Nat) : Nat.gcd n (2 ^ d) = 1 := by
  have h2 : Nat.Coprime n 2 := by
    unfold Nat.Coprime
    rw [Nat.gcd_comm, Nat.gcd_rec, h]
    decide
  exact Nat.Coprime.pow_right d h2
theorem hlf_gcd : ∀ (d n : Nat), (hlf n d).1 = n / Nat.gcd n (2 ^ d) ∧ 2 ^ (hlf n d).2 = 2 ^ d / Nat.gcd n (2 ^ d)
  | 0, n => by rw [hlf_zero]; simp
  | d + 1, n => by
    by_cases h : n % 2 = 0
    · obtain ⟨m, rfl⟩ : ∃ m, n = 2 * m := ⟨n / 2, by omega⟩
      rw [hlf_even h, Nat.mul_div_cancel_left _ (by decide)]
      obtain ⟨h1, h2⟩ := hlf_gcd d m
      have e : 2 ^ (d + 1) = 2 * 2 ^ d := by rw [Nat.pow_succ, Nat.mul_comm]
      rw [e, Nat.gcd_mul_left, Nat.mul_div_mul_left _ _ (by decide), Nat.mul_div_mul_left _ _ (by decide)]
      exact ⟨h1, h2⟩
    · rw [hlf_odd h, gcd_odd_pow (by omega)]
      simp
end Go.Proofs.Ytencblbkbalmcaa
