/-
  POWERS, AND HOW MANY BITS THEY HAVE: plain mathematics. No program.
-/
import Derived.Test.YtgobjobppajkbaaDoorMath
import Derived.Lib.BitFns
namespace Go.Proofs.YtgobjobppajkbaaDoor

theorem lt_bitLenAux : ∀ (f x : Nat), x < 2 ^ f → x < 2 ^ Lib.bitLenAux f x
  | 0, x, h => by simpa [Lib.bitLenAux] using h
  | f + 1, x, h => by
    rw [Lib.bitLenAux]
    split
    · rename_i h0; subst h0; exact Nat.one_pos
    · have := lt_bitLenAux f (x / 2) (by rw [Nat.pow_succ] at h; omega)
      rw [Nat.add_comm, Nat.pow_succ]
      omega
/-- A number has at most so many bits just if it is less than this power of two. -/
theorem bitLen_le_iff {x k : Nat} (h : x < 18446744073709551616) : Lib.bitLen x ≤ k ↔ x < 2 ^ k := by
  constructor
  · intro hk
    exact Nat.lt_of_lt_of_le (lt_bitLenAux 64 x h) (Nat.pow_le_pow_right (by decide) hk)
  · intro hk
    exact Lib.bitLenAux_le 64 x k hk
/-- How many bits Times to a power has. -/
def bl (t : Int) (k : Nat) : Nat := Lib.bitLen (t ^ k).toNat
theorem pow_t {t p : Int} (hg : goodB t p = true) (k : Nat) : 0 < t ^ k ∧ t ^ k ≤ 9 ^ k := by
  obtain ⟨g1, g2, g3, g4, g5, g6⟩ := goodB_iff.1 hg
  have h9 : ∀ k : Nat, (0 : Int) < 9 ^ k := fun k => Int.pow_pos (by decide)
  induction k with
  | zero => exact ⟨by simp, by simp⟩
  | succ k ih =>
    rw [Int.pow_succ, Int.pow_succ]
    exact ⟨Int.mul_pos ih.1 (by omega), Int.mul_le_mul ih.2 g2 (by omega) (Int.le_of_lt (h9 k))⟩
theorem nine_le {k n : Nat} (h : k ≤ n) : (9 : Int) ^ k ≤ 9 ^ n := by
  obtain ⟨d, rfl⟩ : ∃ d, n = k + d := ⟨n - k, by omega⟩
  rw [Int.pow_add]
  have h1 : (0 : Int) < 9 ^ k := Int.pow_pos (by decide)
  have h2 : (0 : Int) < 9 ^ d := Int.pow_pos (by decide)
  have := Int.mul_le_mul_of_nonneg_left (c := 9 ^ k) (show (1 : Int) ≤ 9 ^ d by omega) (Int.le_of_lt h1)
  omega
theorem pow_t20 {t p : Int} (hg : goodB t p = true) {k : Nat} (hk : k ≤ 20) : 0 < t ^ k ∧ t ^ k < 18446744073709551616 := by
  have h := pow_t hg k
  have h2 := nine_le hk
  have h3 : (9 : Int) ^ 20 = 12157665459056928801 := by decide
  omega
theorem pow_t14 {t p : Int} (hg : goodB t p = true) {k : Nat} (hk : k ≤ 14) : 0 < t ^ k ∧ t ^ k ≤ 22876792454961 := by
  have h := pow_t hg k
  have h2 := nine_le hk
  have h3 : (9 : Int) ^ 14 = 22876792454961 := by decide
  omega
/-- A word with so many odd ones falls. -/
theorem falls_iff {t p : Int} (hg : goodB t p = true) {k : Nat} (hk : k ≤ 20) (L : Nat) : decide (bl t k ≤ L) = decide (t ^ k < 2 ^ L) := by
  obtain ⟨h1, h2⟩ := pow_t20 hg hk
  rw [Bool.eq_iff_iff, decide_eq_true_eq, decide_eq_true_eq, bl, bitLen_le_iff (by omega)]
  have e : ((2 ^ L : Nat) : Int) = 2 ^ L := by simp
  rw [← e]
  omega
end Go.Proofs.YtgobjobppajkbaaDoor
