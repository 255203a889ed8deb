/-
  A NUMBER's BITS IN A LIST, TAKEN SOME TIMES: plain mathematics. No program.
-/
import Derived.Test.YtipefnhmihpdaaaPowM
namespace Go.Proofs.Ytipefnhmihpdaaa

/-- The bit j of x. -/
def dig2 (x j : Nat) : Nat := x / 2 ^ j % 2
/-- What is carried into the place i. -/
def car (P t i : Nat) : Nat := P % 2 ^ i * t / 2 ^ i
theorem car_zero (P t : Nat) : car P t 0 = 0 := by simp [car, Nat.mod_one]
theorem car_sum (P t i : Nat) : car P t i + dig2 P i * t = P % 2 ^ (i + 1) * t / 2 ^ i := by
  have h := Nat.mod_mul (a := 2 ^ i) (b := 2) (x := P)
  rw [Nat.pow_succ, h, Nat.add_mul, Nat.mul_assoc, Nat.add_mul_div_left _ _ (Nat.two_pow_pos i)]
  rfl
theorem car_dig (P t i : Nat) : (car P t i + dig2 P i * t) % 2 = dig2 (P * t) i := by
  rw [car_sum, dig2]
  have h := Nat.div_add_mod P (2 ^ (i + 1))
  have e : P * t = P % 2 ^ (i + 1) * t + 2 ^ i * (2 * (P / 2 ^ (i + 1) * t)) := by
    have e1 : P * t = (2 ^ (i + 1) * (P / 2 ^ (i + 1)) + P % 2 ^ (i + 1)) * t := by rw [h]
    have e2 : 2 ^ (i + 1) * (P / 2 ^ (i + 1)) * t = 2 ^ i * (2 * (P / 2 ^ (i + 1) * t)) := by rw [Nat.pow_succ, Nat.mul_assoc, Nat.mul_assoc]
    rw [e1, Nat.add_mul, e2, Nat.add_comm]
    first | done | (congr 2; rw [Nat.add_comm, Nat.mul_add_mod, Nat.mod_mod])
  rw [e, Nat.add_mul_div_left _ _ (Nat.two_pow_pos i)]
  omega
theorem car_next (P t i : Nat) : (car P t i + dig2 P i * t) / 2 = car P t (i + 1) := by
  rw [car_sum, car, Nat.div_div_eq_div_mul, ← Nat.pow_succ]
theorem car_last {P t k : Nat} (h : P < 2 ^ k) : car P t k = P * t / 2 ^ k := by rw [car, Nat.mod_eq_of_lt h]
theorem car_lt {P t i : Nat} (h : 1 ≤ t) : car P t i < t := by
  rw [car]
  exact Nat.div_lt_of_lt_mul (Nat.mul_lt_mul_of_pos_right (Nat.mod_lt _ (Nat.two_pow_pos i)) (by omega))
/-- What is left behind k bits. -/
def shr2 (x k : Nat) : Nat := x / 2 ^ k
theorem car_shr {P t k : Nat} (h : P < 2 ^ k) : car P t k = shr2 (P * t) k := car_last h
theorem shr2_dig (x k : Nat) : shr2 x k % 2 = dig2 x k := rfl
theorem shr2_next (x k : Nat) : shr2 x k / 2 = shr2 x (k + 1) := by unfold shr2; rw [Nat.div_div_eq_div_mul, ← Nat.pow_succ]
/-- The first k bits. -/
def dgL (x k : Nat) : List Int := (List.range k).map fun (i : Nat) => (dig2 x i : Int)
theorem dgL_length (x k : Nat) : (dgL x k).length = k := by simp [dgL]
theorem dgL_succ (x k : Nat) : dgL x (k + 1) = dgL x k ++ [(dig2 x k : Int)] := by simp [dgL, List.range_succ]
/-- The first i bits of y, behind them those of x. -/
def dgM (x y i k : Nat) : List Int := (List.range k).map fun (j : Nat) => if j < i then (dig2 y j : Int) else (dig2 x j : Int)
theorem dgM_zero (x y k : Nat) : dgM x y 0 k = dgL x k := by simp [dgM, dgL]
theorem dgM_full (x y k : Nat) : dgM x y k k = dgL y k := by
  apply List.ext_getElem (by simp [dgM, dgL])
  intro i h1 h2
  have : i < k := by simpa [dgM] using h1
  simp [dgM, dgL, this]
theorem dgM_at {x y i k : Nat} (h : i < k) : (dgM x y i k)[i]? = some (dig2 x i : Int) := by simp [dgM, h]
theorem dgM_set {x y i k : Nat} : ((dgM x y i k).map (Value.int .i64)).set i (.int .i64 (dig2 y i : Int)) = (dgM x y (i + 1) k).map (Value.int .i64) := by
  apply List.ext_getElem (by simp [dgM])
  intro j h1 h2
  rw [List.getElem_set]
  by_cases e : i = j
  · subst e; simp [dgM]
  · have : (j < i) = (j < i + 1) := by simp only [eq_iff_iff]; omega
    simp [dgM, e, this]
theorem dig2_le (x j : Nat) : dig2 x j ≤ 1 := by unfold dig2; omega
/-- One bit more is wanted just if the number is not less. -/
theorem bits_more {x k : Nat} (hx : x < 18446744073709551616) (hk : k ≤ Lib.bitLen x) (h' : 0 < shr2 x k) : k + 1 ≤ Lib.bitLen x := by
  have h : 0 < x / 2 ^ k := h'
  apply Nat.lt_of_le_of_ne hk
  intro e
  have h2 := (bitLen_le_iff hx (k := k)).1 (by omega)
  rw [Nat.div_eq_of_lt h2] at h
  omega
theorem bits_done {x k : Nat} (hx : x < 18446744073709551616) (hk : k ≤ Lib.bitLen x) (h' : ¬ 0 < shr2 x k) : k = Lib.bitLen x := by
  have h : ¬ 0 < x / 2 ^ k := h'
  have h1 : x / 2 ^ k = 0 := Nat.eq_zero_of_not_pos h
  have h2 : x < 2 ^ k := by
    rcases Nat.div_eq_zero_iff.1 h1 with h | h
    · have := Nat.two_pow_pos k; omega
    · exact h
  have := (bitLen_le_iff hx (k := k)).2 h2
  omega
theorem bitLen_lt {x : Nat} (hx : x < 18446744073709551616) : x < 2 ^ Lib.bitLen x := (bitLen_le_iff hx).1 (Nat.le_refl _)
theorem bitLen_mono {x y : Nat} (h : x ≤ y) (hy : y < 18446744073709551616) : Lib.bitLen x ≤ Lib.bitLen y :=
  (bitLen_le_iff (by omega)).2 (Nat.lt_of_le_of_lt h (bitLen_lt hy))
theorem bitLen_64 {x : Nat} (hx : x < 18446744073709551616) : Lib.bitLen x ≤ 64 := (bitLen_le_iff hx).2 hx
theorem nat_pow20 {t j : Nat} (h1 : 1 ≤ t) (h9 : t ≤ 9) (hj : j ≤ 20) : 0 < t ^ j ∧ t ^ j < 18446744073709551616 := by
  have h2 : t ^ j ≤ 9 ^ 20 := Nat.le_trans (Nat.pow_le_pow_left h9 j) (Nat.pow_le_pow_right (by decide) hj)
  have h3 : (9 : Nat) ^ 20 = 12157665459056928801 := by decide
  exact ⟨Nat.pow_pos (by omega), by omega⟩
theorem bl_nat (t k : Nat) : bl (t : Int) k = Lib.bitLen (t ^ k) := by
  unfold bl
  congr 1
  first | done | (have : ((t : Int) ^ k) = ((t ^ k : Nat) : Int) := by simp
                  rw [this, Int.toNat_natCast])
end Go.Proofs.Ytipefnhmihpdaaa
