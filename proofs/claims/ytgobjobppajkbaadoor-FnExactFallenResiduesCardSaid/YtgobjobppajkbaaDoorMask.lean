/-
  BITS OF CHAPTER 2: a mask of the lowest bits, at numbers less than 0 too; lengths and numbers of bits. No program.
-/
import Derived.Laws.BitsLemmas
import Derived.Test.YtgobjobppajkbaaDoorMath
namespace Go.Proofs.YtgobjobppajkbaaDoor

theorem pow2_nat (L : Nat) : ((2 ^ L : Nat) : Int) = (2 : Int) ^ L := by simp
theorem and_mask (n : Int) (L : Nat) (hL : L ≤ 15) : bits .and .i64 n ((2 : Int) ^ L - 1) = n % 2 ^ L := by
  have hpos : 0 < 2 ^ L := Nat.two_pow_pos L
  have hle : 2 ^ L ≤ 2 ^ 15 := Nat.pow_le_pow_right (by decide) hL
  have hc : ((2 : Int) ^ L - 1) = ((2 ^ L - 1 : Nat) : Int) := by rw [Int.natCast_sub hpos]; simp
  have hd : ((2 : Int) ^ L) ∣ 2 ^ 64 := ⟨2 ^ (64 - L), by rw [← Int.pow_add]; congr 1; omega⟩
  unfold bits
  rw [hc]
  simp only [BitVec.ofInt_natCast, BitVec.toNat_and, BitVec.toNat_ofNat, BitVec.toNat_ofInt]
  rw [Nat.mod_eq_of_lt (show 2 ^ L - 1 < 2 ^ IntKind.i64.bits by show _ < 2 ^ 64; omega), Nat.and_two_pow_sub_one_eq_mod]
  have h1 : (((n % ((2 ^ IntKind.i64.bits : Nat) : Int)).toNat % 2 ^ L : Nat) : Int) = n % 2 ^ L := by
    have h0 : 0 ≤ n % ((2 ^ IntKind.i64.bits : Nat) : Int) := Int.emod_nonneg _ (by decide)
    rw [Int.natCast_emod, Int.toNat_of_nonneg h0]
    show n % (2 ^ 64) % _ = _
    rw [pow2_nat, Int.emod_emod_of_dvd _ hd]
  rw [h1, IntKind.wrap_i64]
  have h2 : (0 : Int) < 2 ^ L := Int.pow_pos (by decide)
  have h3 := Int.emod_nonneg n (show (2 : Int) ^ L ≠ 0 by omega)
  have h4 := Int.emod_lt_of_pos n h2
  have h5 : (2 : Int) ^ L ≤ 32768 := by
    rw [← pow2_nat]
    have h15 : (2 : Nat) ^ 15 = 32768 := rfl
    rw [h15] at hle
    exact Int.ofNat_le.2 hle
  omega
end Go.Proofs.YtgobjobppajkbaaDoor
