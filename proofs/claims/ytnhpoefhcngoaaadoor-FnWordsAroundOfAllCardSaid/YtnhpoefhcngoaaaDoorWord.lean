/-
  PLAIN MATHEMATICS OF CHAPTER 2: words of numbers by short steps, what a word does to all numbers that have it, residues. No Go, no program.
-/
import Derived.Test.YtnhpoefhcngoaaaDoorMath
namespace Go.Proofs.YtnhpoefhcngoaaaDoor

/-- The sign of a number: o or e. -/
def par (n : Int) : UInt8 := if n % 2 = 0 then 101 else 111
/-- The word of a number, of a length. -/
def wrd (t p n : Int) (k : Nat) : List UInt8 := (List.range k).map fun (i : Nat) => par (itr (sx t p) i n)
theorem wrd_succ (t p n : Int) (k : Nat) : wrd t p n (k + 1) = wrd t p n k ++ [par (itr (sx t p) k n)] := by simp [wrd, List.range_succ]
theorem wrd_length (t p n : Int) (k : Nat) : (wrd t p n k).length = k := by simp [wrd]

/-- One sign more: a, b and the residue. -/
def linS (t p : Int) (k : Nat) (o : Bool) (x : Int × Int × Int) : Int × Int × Int :=
  if decide (x.2.1 % 2 = 1) = o then (if o = true then x.1 * t else x.1, sx t p x.2.1, x.2.2)
  else (if o = true then x.1 * t else x.1, sx t p (x.2.1 + x.1), x.2.2 + 2 ^ k)
/-- a, b and the residue of the first k signs of a word. -/
def lin (t p : Int) (l : List UInt8) : Nat → Int × Int × Int
  | 0 => (1, 0, 0)
  | k + 1 => linS t p k (l.getD k 0 == 111) (lin t p l k)
theorem lin_succ (t p : Int) (l : List UInt8) (k : Nat) : lin t p l (k + 1) = linS t p k (l.getD k 0 == 111) (lin t p l k) := rfl

theorem emod_double (n P : Int) (hP : 0 < P) : n % (P * 2) = n % P + P * (n / P % 2) := by
  have h1 := Int.mul_ediv_add_emod n P
  have h2 := Int.mul_ediv_add_emod (n / P) 2
  have h3 := Int.emod_nonneg n (show P ≠ 0 by omega)
  have h4 := Int.emod_lt_of_pos n hP
  have e : n = P * 2 * (n / P / 2) + (n % P + P * (n / P % 2)) := by
    have : P * (n / P) = P * 2 * (n / P / 2) + P * (n / P % 2) := by
      have : P * (n / P) = P * (2 * (n / P / 2) + n / P % 2) := by rw [h2]
      rw [Int.mul_add, ← Int.mul_assoc] at this
      exact this
    omega
  have h5 : n / P % 2 = 0 ∨ n / P % 2 = 1 := by omega
  rw [show n % (P * 2) = (P * 2 * (n / P / 2) + (n % P + P * (n / P % 2))) % (P * 2) by rw [← e]]
  rw [Int.mul_add_emod_self_left]
  refine Int.emod_eq_of_lt ?_ ?_
  · rcases h5 with h | h <;> rw [h] <;> omega
  · rcases h5 with h | h <;> rw [h] <;> omega

theorem mul_odd {q a : Int} (ha : a % 2 = 1) : (q * a) % 2 = q % 2 := by
  rw [Int.mul_emod, ha, Int.mul_one, Int.emod_emod]

theorem sx_shift {t p a b q : Int} (ht : t % 2 = 1) (hp : p % 2 = 1) (o : Bool) (ho : decide (b % 2 = 1) = o) :
    sx t p (2 * q * a + b) = q * (if o = true then a * t else a) + sx t p b := by
  have e0 : 2 * q * a = 2 * (q * a) := by rw [Int.mul_assoc]
  unfold sx
  rw [e0]
  cases o with
  | true =>
    have hb : b % 2 = 1 := by simpa using ho
    have h2 := odd_even ht hp (n := b) (by omega)
    rw [if_neg (show ¬ (2 * (q * a) + b) % 2 = 0 by omega), if_neg (show ¬ b % 2 = 0 by omega), if_pos rfl]
    have : t * (2 * (q * a) + b) + p = 2 * (q * (a * t)) + (t * b + p) := by
      rw [Int.mul_add]
      have : t * (2 * (q * a)) = 2 * (q * (a * t)) := by
        rw [Int.mul_left_comm, Int.mul_comm t, Int.mul_assoc]
      omega
    rw [this]
    omega
  | false =>
    have hb : ¬ b % 2 = 1 := by simpa using ho
    rw [if_pos (show (2 * (q * a) + b) % 2 = 0 by omega), if_pos (show b % 2 = 0 by omega), if_neg (by simp)]
    omega

/-- Are all signs o or e? -/
def Signs (l : List UInt8) : Prop := ∀ c ∈ l, c = 111 ∨ c = 101

theorem par_eq {n : Int} {c : UInt8} (hc : c = 111 ∨ c = 101) : par n = c ↔ decide (n % 2 = 1) = (c == 111) := by
  unfold par
  rcases hc with rfl | rfl
  · by_cases h : n % 2 = 0
    · rw [if_pos h]; simp; omega
    · rw [if_neg h]; simp; omega
  · by_cases h : n % 2 = 0
    · rw [if_pos h]; simp; omega
    · rw [if_neg h]; simp; omega

/-- What a word tells: a is odd and greater than 0; the residue is one; what its numbers become; just its numbers have it. -/
structure LinOk (t p : Int) (l : List UInt8) (k : Nat) : Prop where
  odd : (lin t p l k).1 % 2 = 1
  pos : 1 ≤ (lin t p l k).1
  r0 : 0 ≤ (lin t p l k).2.2
  r1 : (lin t p l k).2.2 < 2 ^ k
  goes : ∀ q : Int, itr (sx t p) k (q * 2 ^ k + (lin t p l k).2.2) = q * (lin t p l k).1 + (lin t p l k).2.1
  just : ∀ n : Int, wrd t p n k = l.take k ↔ n % 2 ^ k = (lin t p l k).2.2

theorem take_snoc {l : List UInt8} {k : Nat} (h : k < l.length) : l.take (k + 1) = l.take k ++ [l.getD k 0] := by
  rw [List.take_succ_eq_append_getElem h, List.getD_eq_getElem?_getD, List.getElem?_eq_getElem h]
  rfl

theorem snoc_inj {α : Type} {a b : List α} {x y : α} : a ++ [x] = b ++ [y] ↔ a = b ∧ x = y := by
  constructor
  · intro h
    have := List.append_inj' h rfl
    exact ⟨this.1, by simpa using this.2⟩
  · rintro ⟨rfl, rfl⟩; rfl

theorem linOk {t p : Int} (hg : goodB t p = true) {l : List UInt8} (hl : Signs l) : ∀ {k : Nat}, k ≤ l.length → LinOk t p l k := by
  obtain ⟨g1, g2, g3, g4, g5, g6⟩ := goodB_iff.1 hg
  intro k
  induction k with
  | zero =>
    intro _
    exact ⟨rfl, by simp [lin], by simp [lin], by simp [lin], fun q => by simp [lin, itr], fun n => by simp [lin, wrd, Int.emod_one]⟩
  | succ k ih =>
    intro hk
    obtain ⟨i1, i2, i3, i4, i5, i6⟩ := ih (by omega)
    have hc := hl (l.getD k 0) (by rw [List.getD_eq_getElem?_getD, List.getElem?_eq_getElem (by omega)]; exact List.getElem_mem _)
    have hP : (0 : Int) < 2 ^ k := Int.pow_pos (by decide)
    have hPP : (2 : Int) ^ (k + 1) = 2 ^ k * 2 := Int.pow_succ _ _
    have hlin := lin_succ t p l k
    rcases hx : lin t p l k with ⟨a, b, r⟩
    rw [hx] at i1 i2 i3 i4 i5 i6 hlin
    dsimp only at i1 i2 i3 i4 i5 i6
    obtain ⟨P, hP'⟩ : ∃ P : Int, (2 : Int) ^ k = P := ⟨_, rfl⟩
    rw [hP'] at i4 hP hPP
    simp only [hP'] at i5 i6
    obtain ⟨c, hcc⟩ : ∃ c, l.getD k 0 = c := ⟨_, rfl⟩
    rw [hcc] at hc hlin
    have hao : (if (c == 111) = true then a * t else a) % 2 = 1 := by
      split
      · rw [mul_odd g3]; exact i1
      · exact i1
    have hap : 1 ≤ (if (c == 111) = true then a * t else a) := by
      split
      · have : 0 < a * t := Int.mul_pos (by omega) (by omega)
        omega
      · exact i2
    -- the next sign
    have hnext : ∀ n, wrd t p n (k + 1) = l.take (k + 1) ↔ n % P = r ∧ decide ((n / P * a + b) % 2 = 1) = (c == 111) := by
      intro n
      rw [wrd_succ, take_snoc (by omega), hcc]
      rw [snoc_inj, i6]
      constructor
      · rintro ⟨h1, h2⟩
        refine ⟨h1, ?_⟩
        have e : n = n / P * P + r := by have := Int.mul_ediv_add_emod n P; rw [Int.mul_comm] at this; omega
        rw [← i5 (n / P), ← e]
        exact (par_eq hc).1 h2
      · rintro ⟨h1, h2⟩
        refine ⟨h1, ?_⟩
        have e : n = n / P * P + r := by have := Int.mul_ediv_add_emod n P; rw [Int.mul_comm] at this; omega
        rw [← i5 (n / P), ← e] at h2
        exact (par_eq hc).2 h2
    have hpar : ∀ q : Int, (q * a + b) % 2 = (q + b) % 2 := by
      intro q
      have := mul_odd (q := q) i1
      omega
    unfold linS at hlin
    dsimp only at hlin
    by_cases hf : decide (b % 2 = 1) = (c == 111)
    · rw [if_pos hf] at hlin
      refine ⟨by rw [hlin]; exact hao, by rw [hlin]; exact hap, by rw [hlin]; exact i3, by rw [hlin, hPP]; dsimp only; omega, ?_, ?_⟩
      · intro q
        rw [hlin, hPP]
        dsimp only
        rw [itr_succ, show q * (P * 2) + r = (2 * q) * P + r by rw [Int.mul_comm P, ← Int.mul_assoc, Int.mul_comm q], i5]
        exact sx_shift g3 g6 _ hf
      · intro n
        rw [hlin, hnext, hPP, emod_double n P hP, hpar]
        dsimp only
        have h3 := Int.emod_nonneg n (show P ≠ 0 by omega)
        have h4 := Int.emod_lt_of_pos n hP
        have h5 : n / P % 2 = 0 ∨ n / P % 2 = 1 := by omega
        rw [← hf]
        rcases h5 with h | h
        · rw [h]
          have : (n / P + b) % 2 = b % 2 := by omega
          rw [this]
          simp
        · rw [h]
          constructor
          · rintro ⟨_, h6⟩
            have : (n / P + b) % 2 = 1 - b % 2 := by omega
            rw [this] at h6
            have : b % 2 = 0 ∨ b % 2 = 1 := by omega
            rcases this with hb | hb <;> rw [hb] at h6 <;> simp at h6
          · intro h6; omega
    · rw [if_neg hf] at hlin
      have hf' : decide ((b + a) % 2 = 1) = (c == 111) := by
        have : b % 2 = 0 ∨ b % 2 = 1 := by omega
        rcases this with hb | hb
        · have e : (b + a) % 2 = 1 := by omega
          rw [hb] at hf
          rw [e]
          cases hq : (c == 111) <;> simp_all
        · have e : (b + a) % 2 = 0 := by omega
          rw [hb] at hf
          rw [e]
          cases hq : (c == 111) <;> simp_all
      rw [hP'] at hlin
      refine ⟨by rw [hlin]; exact hao, by rw [hlin]; exact hap, by rw [hlin]; dsimp only; omega, by rw [hlin, hPP]; dsimp only; omega, ?_, ?_⟩
      · intro q
        rw [hlin, hPP]
        dsimp only
        rw [itr_succ, show q * (P * 2) + (r + P) = (2 * q + 1) * P + r by rw [Int.add_mul, Int.mul_comm P, ← Int.mul_assoc, Int.mul_comm q]; omega, i5]
        rw [show (2 * q + 1) * a + b = 2 * q * a + (b + a) by rw [Int.add_mul]; omega]
        exact sx_shift g3 g6 _ hf'
      · intro n
        rw [hlin, hnext, hPP, emod_double n P hP, hpar]
        dsimp only
        have h3 := Int.emod_nonneg n (show P ≠ 0 by omega)
        have h4 := Int.emod_lt_of_pos n hP
        have h5 : n / P % 2 = 0 ∨ n / P % 2 = 1 := by omega
        rw [← hf']
        rcases h5 with h | h
        · rw [h]
          constructor
          · rintro ⟨_, h6⟩
            have : (n / P + b) % 2 = 1 - (b + a) % 2 := by omega
            rw [this] at h6
            have : (b + a) % 2 = 0 ∨ (b + a) % 2 = 1 := by omega
            rcases this with hb | hb <;> rw [hb] at h6 <;> simp at h6
          · intro h6; omega
        · rw [h]
          have : (n / P + b) % 2 = (b + a) % 2 := by omega
          rw [this]
          constructor
          · rintro ⟨h6, _⟩; omega
          · intro h6; exact ⟨by omega, rfl⟩

/-- Signs that a number has are signs. -/
theorem signs_wrd (t p n : Int) (k : Nat) : Signs (wrd t p n k) := by
  intro c hc
  simp only [wrd, List.mem_map, List.mem_range] at hc
  obtain ⟨i, _, rfl⟩ := hc
  unfold par
  split <;> simp

/-- Numbers have the same word just if they have the same residue. -/
theorem wrd_inj {t p : Int} (hg : goodB t p = true) (m n : Int) (k : Nat) : wrd t p m k = wrd t p n k ↔ m % 2 ^ k = n % 2 ^ k := by
  have h := linOk hg (signs_wrd t p n k) (k := k) (by rw [wrd_length]; exact Nat.le_refl _)
  have hn := h.just n
  have hm := h.just m
  rw [show (wrd t p n k).take k = wrd t p n k from List.take_of_length_le (by rw [wrd_length]; exact Nat.le_refl _)] at hn hm
  rw [hm, hn.1 rfl]

/-- The word of a number is that of its residue. -/
theorem wrd_mod {t p : Int} (hg : goodB t p = true) (n : Int) (k : Nat) : wrd t p (n % 2 ^ k) k = wrd t p n k :=
  (wrd_inj hg _ _ _).2 (Int.emod_emod _ _)

/-- How great numbers become on the way. -/
theorem sx_five {t p n : Int} (hg : goodB t p = true) : ((sx t p n).natAbs : Int) + 9 ≤ 5 * ((n.natAbs : Int) + 9) := by
  obtain ⟨g1, g2, g3, g4, g5, g6⟩ := goodB_iff.1 hg
  have m := mul_bound (t := t) (n := n) (B := n.natAbs) g1 g2 (by omega) (by omega)
  unfold sx
  split <;> omega
theorem itr_five {t p : Int} (hg : goodB t p = true) (n : Int) (k : Nat) : ((itr (sx t p) k n).natAbs : Int) + 9 ≤ 5 ^ k * ((n.natAbs : Int) + 9) := by
  induction k with
  | zero => simp [itr]
  | succ k ih =>
    rw [itr_succ, Int.pow_succ]
    have h := sx_five (n := itr (sx t p) k n) hg
    have : (5 : Int) ^ k * 5 * ((n.natAbs : Int) + 9) = 5 * (5 ^ k * ((n.natAbs : Int) + 9)) := by
      rw [Int.mul_comm (5 ^ k) 5, Int.mul_assoc]
    omega
theorem pow5_le {k : Nat} (h : k ≤ 15) : (5 : Int) ^ k ≤ 30517578125 ∧ (0 : Int) < 5 ^ k := by
  refine ⟨?_, Int.pow_pos (by decide)⟩
  have : ∀ k : Fin 16, (5 : Int) ^ k.val ≤ 30517578125 := by decide
  exact this ⟨k, by omega⟩
theorem pow2_le {k : Nat} (h : k ≤ 15) : (2 : Int) ^ k ≤ 32768 ∧ (0 : Int) < 2 ^ k := by
  refine ⟨?_, Int.pow_pos (by decide)⟩
  have : ∀ k : Fin 16, (2 : Int) ^ k.val ≤ 32768 := by decide
  exact this ⟨k, by omega⟩
theorem itr_small {t p n : Int} (hg : goodB t p = true) {k : Nat} (hk : k ≤ 15) (h0 : 0 ≤ n) (h1 : n ≤ 32768) : -1100000000000000 ≤ itr (sx t p) k n ∧ itr (sx t p) k n ≤ 1100000000000000 := by
  have h := itr_five hg n k
  obtain ⟨h2, h3⟩ := pow5_le hk
  have h4 : (5 : Int) ^ k * ((n.natAbs : Int) + 9) ≤ 30517578125 * 32777 := Int.mul_le_mul h2 (by omega) (by omega) (by decide)
  omega
/-- How great a and b are. -/
theorem lin_b {t p : Int} (hg : goodB t p = true) {l : List UInt8} (hl : Signs l) {k : Nat} (hk : k ≤ l.length) (hk' : k ≤ 15) :
    -1100000000000000 ≤ (lin t p l k).2.1 ∧ (lin t p l k).2.1 ≤ 1100000000000000 := by
  have h := linOk hg hl hk
  have e := h.goes 0
  rw [Int.zero_mul, Int.zero_mul, Int.zero_add, Int.zero_add] at e
  rw [← e]
  have := h.r1
  have := (pow2_le hk').1
  exact itr_small hg hk' h.r0 (by omega)
theorem lin_a9 {t p : Int} (hg : goodB t p = true) (l : List UInt8) (k : Nat) : 0 < (lin t p l k).1 ∧ (lin t p l k).1 ≤ 9 ^ k := by
  obtain ⟨g1, g2, g3, g4, g5, g6⟩ := goodB_iff.1 hg
  induction k with
  | zero => exact ⟨by simp [lin], by simp [lin]⟩
  | succ k ih =>
    have hs : (lin t p l (k + 1)).1 = (lin t p l k).1 * t ∨ (lin t p l (k + 1)).1 = (lin t p l k).1 := by
      rw [lin_succ]; unfold linS
      split <;> dsimp only <;> split <;> simp
    have hpw : (0 : Int) < 9 ^ k := Int.pow_pos (by decide)
    rw [Int.pow_succ]
    rcases hs with hs | hs
    · rw [hs]
      refine ⟨Int.mul_pos ih.1 (by omega), Int.mul_le_mul ih.2 g2 (by omega) (by omega)⟩
    · rw [hs]; omega
theorem pow9_le {k : Nat} (h : k ≤ 15) : (9 : Int) ^ k ≤ 205891132094649 := by
  have : ∀ k : Fin 16, (9 : Int) ^ k.val ≤ 205891132094649 := by decide
  exact this ⟨k, by omega⟩
theorem lin_a {t p : Int} (hg : goodB t p = true) (l : List UInt8) {k : Nat} (hk : k ≤ 15) : 0 < (lin t p l k).1 ∧ (lin t p l k).1 ≤ 205891132094649 := by
  have h := lin_a9 hg l k
  have := pow9_le hk
  omega
end Go.Proofs.YtnhpoefhcngoaaaDoor
