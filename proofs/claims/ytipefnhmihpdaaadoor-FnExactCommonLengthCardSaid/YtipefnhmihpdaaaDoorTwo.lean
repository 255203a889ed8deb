/-
  HOW OFTEN A NUMBER CAN BE HALVED: plain mathematics. No program.
-/
import Derived.Test.YtipefnhmihpdaaaDoorMath
import Derived.Lib.TrailingZeros
namespace Go.Proofs.YtipefnhmihpdaaaDoor

theorem hlv_spec : ∀ (f : Nat) (n : Int), n ≠ 0 → n.natAbs < f → ∃ m : Int, n = 2 ^ (hlv n).2 * (2 * m + 1)
  | 0, n, _, h => by omega
  | f + 1, n, h0, h => by
    by_cases he : n % 2 = 0
    · obtain ⟨m, hm⟩ := hlv_spec f (n / 2) (by omega) (by omega)
      refine ⟨m, ?_⟩
      rw [hlv_even h0 he]
      dsimp only
      rw [Int.pow_succ, Int.mul_comm (2 ^ _) 2, Int.mul_assoc, ← hm]
      omega
    · rw [hlv_odd he]
      exact ⟨n / 2, by simp; omega⟩
theorem two_uniq {i j : Nat} {a b : Int} (h : (2 : Int) ^ i * (2 * a + 1) = 2 ^ j * (2 * b + 1)) : i = j := by
  have key : ∀ {i j : Nat} {a b : Int}, i < j → (2 : Int) ^ i * (2 * a + 1) = 2 ^ j * (2 * b + 1) → False := by
    intro i j a b hij h
    obtain ⟨d, rfl⟩ : ∃ d, j = i + (d + 1) := ⟨j - i - 1, by omega⟩
    rw [Int.pow_add, Int.mul_assoc] at h
    have hp : (2 : Int) ^ i ≠ 0 := by have : (0 : Int) < 2 ^ i := Int.pow_pos (by decide); omega
    have h2 := Int.eq_of_mul_eq_mul_left hp h
    rw [Int.pow_succ, Int.mul_comm (2 ^ d) 2, Int.mul_assoc] at h2
    omega
  rcases Nat.lt_trichotomy i j with h1 | h1 | h1
  · exact (key h1 h).elim
  · exact h1
  · exact (key h1 h.symm).elim
/-- The number of zeros at the end of a number's bits, less than 0 or not, is how often it can be halved. -/
theorem ctz_hlv {d : Int} (h0 : d ≠ 0) (h1 : -2000000000000 ≤ d) (h2 : d ≤ 2000000000000) : (Lib.ctz 64 (d % 18446744073709551616).toNat) = (hlv d).2 := by
  obtain ⟨m, hm⟩ := hlv_spec _ d h0 (Nat.lt_succ_self _)
  have hx0 : (d % 18446744073709551616).toNat ≠ 0 := by omega
  have hx1 : (d % 18446744073709551616).toNat < 2 ^ 64 := by omega
  obtain ⟨k, hk, hk2⟩ := Lib.ctzFrom_spec 64 _ (by omega) hx1
  have hc : Lib.ctz 64 (d % 18446744073709551616).toNat = Lib.ctzFrom 64 (d % 18446744073709551616).toNat := by rw [Lib.ctz, if_neg hx0]
  rw [hc]
  generalize Lib.ctzFrom 64 (d % 18446744073709551616).toNat = c at hk hk2
  have hki : d % 18446744073709551616 = (2 : Int) ^ c * (2 * (k : Int) + 1) := by
    have : ((d % 18446744073709551616).toNat : Int) = ((2 ^ c * (2 * k + 1) : Nat) : Int) := by rw [hk]
    rw [Int.toNat_of_nonneg (by omega)] at this
    rw [this]
    simp
  have hp : (2 : Int) ^ c * (2 ^ (63 - c) * 2) = 18446744073709551616 := by
    rw [← Int.pow_succ, ← Int.pow_add, show c + (63 - c + 1) = 64 by omega]
    rfl
  refine two_uniq (a := (k : Int) - (if d < 0 then 2 ^ (63 - c) else 0)) (b := m) ?_
  rw [← hm]
  split
  · have e : d = d % 18446744073709551616 - 18446744073709551616 := by omega
    rw [e, hki, ← hp, ← Int.mul_sub]
    congr 1
    omega
  · have e : d = d % 18446744073709551616 := by omega
    rw [Int.sub_zero, ← hki, ← e]
end Go.Proofs.YtipefnhmihpdaaaDoor
