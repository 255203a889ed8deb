/-
  PLAIN MATHEMATICS: greatest common divisors by remainders that may be less than 0.
-/
import Derived.Test.YtbepnhgekbcbjaaDoorCyM
namespace Go.Proofs.YtbepnhgekbcbjaaDoor

theorem gcd_tmod (a b : Int) : Int.gcd b (a.tmod b) = Int.gcd a b := by
  unfold Int.gcd
  rw [Int.natAbs_tmod, Nat.gcd_comm b.natAbs, ← Nat.gcd_rec, Nat.gcd_comm]
theorem tmod_small {a b B : Int} (h0 : b ≠ 0) (h1 : -B ≤ b) (h2 : b ≤ B) : -B ≤ a.tmod b ∧ a.tmod b ≤ B ∧ (a.tmod b).natAbs < b.natAbs := by
  have h : (a.tmod b).natAbs < b.natAbs := by
    rw [Int.natAbs_tmod]
    exact Nat.mod_lt _ (by omega)
  omega
theorem gcd_zero (a : Int) : ((Int.gcd a 0 : Nat) : Int) = if 0 ≤ a then a else -a := by
  rw [Int.gcd_zero]
  split <;> omega
theorem gcd_pos {a b : Int} (h : b ≠ 0) : (1 : Int) ≤ (Int.gcd a b : Nat) := by
  have : Int.gcd a b ≠ 0 := by intro e; rw [Int.gcd_eq_zero_iff] at e; exact h e.2
  omega
theorem gcd_abs (a b : Int) : Int.gcd (a.natAbs : Int) b = Int.gcd a b := by unfold Int.gcd; simp
theorem gcd_le {a b B : Int} (h : 1 ≤ b) (hb : b ≤ B) : ((Int.gcd a b : Nat) : Int) ≤ B := by
  have h2 : (Int.gcd a b : Int) ∣ b := Int.gcd_dvd_right ..
  have := Int.le_of_dvd (by omega) h2
  omega
theorem gcd_neg2 (a b : Int) : Int.gcd (-a) (-b) = Int.gcd a b := by unfold Int.gcd; simp
end Go.Proofs.YtbepnhgekbcbjaaDoor
