/-
  POWERS, AND HOW MANY BITS THEY HAVE: plain mathematics. No program.
  HOW MANY PATTERNS HAVE SO MANY ONES: plain mathematics. No program.
  THE SIGNS OF A PATTERN: plain mathematics. No program.
-/
import Derived.Test.YtnhpoefhcngoaaaDoorMath
import Derived.Lib.BitFns
import Derived.Test.YtnhpoefhcngoaaaDoorWord
namespace Go.Proofs.YtnhpoefhcngoaaaDoor

theorem lt_bitLenAux : ∀ (f x : Nat), x < 2 ^ f → x < 2 ^ Lib.bitLenAux f x
  | 0, x, h => by simpa [Lib.bitLenAux] using h
  | f + 1, x, h => by
    rw [Lib.bitLenAux]
    split
    · rename_i h0; subst h0; exact Nat.one_pos
    · have := lt_bitLenAux f (x / 2) (by rw [Nat.pow_succ] at h; omega)
      rw [Nat.add_comm, Nat.pow_succ]
      omega
/-- A number has at most so many bits just if it is less than this power of two. -/
theorem bitLen_le_iff {x k : Nat} (h : x < 18446744073709551616) : Lib.bitLen x ≤ k ↔ x < 2 ^ k := by
  constructor
  · intro hk
    exact Nat.lt_of_lt_of_le (lt_bitLenAux 64 x h) (Nat.pow_le_pow_right (by decide) hk)
  · intro hk
    exact Lib.bitLenAux_le 64 x k hk
/-- How many bits Times to a power has. -/
def bl (t : Int) (k : Nat) : Nat := Lib.bitLen (t ^ k).toNat
theorem pow_t {t p : Int} (hg : goodB t p = true) (k : Nat) : 0 < t ^ k ∧ t ^ k ≤ 9 ^ k := by
  obtain ⟨g1, g2, g3, g4, g5, g6⟩ := goodB_iff.1 hg
  have h9 : ∀ k : Nat, (0 : Int) < 9 ^ k := fun k => Int.pow_pos (by decide)
  induction k with
  | zero => exact ⟨by simp, by simp⟩
  | succ k ih =>
    rw [Int.pow_succ, Int.pow_succ]
    exact ⟨Int.mul_pos ih.1 (by omega), Int.mul_le_mul ih.2 g2 (by omega) (Int.le_of_lt (h9 k))⟩
theorem nine_le {k n : Nat} (h : k ≤ n) : (9 : Int) ^ k ≤ 9 ^ n := by
  obtain ⟨d, rfl⟩ : ∃ d, n = k + d := ⟨n - k, by omega⟩
  rw [Int.pow_add]
  have h1 : (0 : Int) < 9 ^ k := Int.pow_pos (by decide)
  have h2 : (0 : Int) < 9 ^ d := Int.pow_pos (by decide)
  have := Int.mul_le_mul_of_nonneg_left (c := 9 ^ k) (show (1 : Int) ≤ 9 ^ d by omega) (Int.le_of_lt h1)
  omega
theorem pow_t20 {t p : Int} (hg : goodB t p = true) {k : Nat} (hk : k ≤ 20) : 0 < t ^ k ∧ t ^ k < 18446744073709551616 := by
  have h := pow_t hg k
  have h2 := nine_le hk
  have h3 : (9 : Int) ^ 20 = 12157665459056928801 := by decide
  omega
theorem pow_t14 {t p : Int} (hg : goodB t p = true) {k : Nat} (hk : k ≤ 14) : 0 < t ^ k ∧ t ^ k ≤ 22876792454961 := by
  have h := pow_t hg k
  have h2 := nine_le hk
  have h3 : (9 : Int) ^ 14 = 22876792454961 := by decide
  omega
/-- A word with so many odd ones falls. -/
theorem falls_iff {t p : Int} (hg : goodB t p = true) {k : Nat} (hk : k ≤ 20) (L : Nat) : decide (bl t k ≤ L) = decide (t ^ k < 2 ^ L) := by
  obtain ⟨h1, h2⟩ := pow_t20 hg hk
  rw [Bool.eq_iff_iff, decide_eq_true_eq, decide_eq_true_eq, bl, bitLen_le_iff (by omega)]
  have e : ((2 ^ L : Nat) : Int) = 2 ^ L := by simp
  rw [← e]
  omega
end Go.Proofs.YtnhpoefhcngoaaaDoor

namespace Go.Proofs.YtnhpoefhcngoaaaDoor

/-- The number of ones of a number. -/
def pop (x : Nat) : Nat := Lib.popAux 16 x
theorem popAux_top : ∀ (L f x : Nat), L < f → x < 2 ^ L → Lib.popAux f (2 ^ L + x) = Lib.popAux f x + 1
  | 0, f, x, hf, hx => by
    obtain ⟨g, rfl⟩ : ∃ g, f = g + 1 := ⟨f - 1, by omega⟩
    have : x = 0 := by simpa using hx
    subst this
    simp [Lib.popAux]
    omega
  | L + 1, f, x, hf, hx => by
    obtain ⟨g, rfl⟩ : ∃ g, f = g + 1 := ⟨f - 1, by omega⟩
    have ih := popAux_top L g (x / 2) (by omega) (by rw [Nat.pow_succ] at hx; omega)
    have e1 : (2 ^ (L + 1) + x) % 2 = x % 2 := by rw [Nat.pow_succ]; omega
    have e2 : (2 ^ (L + 1) + x) / 2 = 2 ^ L + x / 2 := by rw [Nat.pow_succ]; omega
    rw [Lib.popAux, Lib.popAux, e1, e2, ih]
    omega
theorem pop_top {L x : Nat} (hL : L < 16) (hx : x < 2 ^ L) : pop (2 ^ L + x) = pop x + 1 := popAux_top L 16 x hL hx
theorem pop_le {L x : Nat} (hL : L ≤ 15) (hx : x < 2 ^ L) : pop x ≤ L := by
  induction L generalizing x with
  | zero => have : x = 0 := by simpa using hx
            subst this; decide
  | succ L ih =>
    by_cases h : x < 2 ^ L
    · have := ih (by omega) h; omega
    · obtain ⟨y, rfl⟩ : ∃ y, x = 2 ^ L + y := ⟨x - 2 ^ L, by omega⟩
      have hy : y < 2 ^ L := by rw [Nat.pow_succ] at hx; omega
      rw [pop_top (by omega) hy]
      have := ih (by omega) hy
      omega

/-- How many of the first 2 to the power of L numbers have a number of ones that f likes. -/
def tal : Nat → (Nat → Bool) → Nat
  | 0, f => if f 0 then 1 else 0
  | L + 1, f => tal L f + tal L (fun i => f (i + 1))
/-- The list of the patterns below n that f likes. -/
def pats (f : Nat → Bool) (n : Nat) : List Nat := (List.range n).filter fun x => f (pop x)
theorem pats_succ (f : Nat → Bool) (n : Nat) : pats f (n + 1) = pats f n ++ (if f (pop n) = true then [n] else []) := by
  unfold pats
  rw [List.range_succ, List.filter_append]
  by_cases h : f (pop n) = true <;> simp [h]
theorem pats_len_le (f : Nat → Bool) (n : Nat) : (pats f n).length ≤ n := by
  have := List.length_filter_le (fun x => f (pop x)) (List.range n)
  simpa [pats] using this
theorem pats_tal {L : Nat} (hL : L ≤ 15) (f : Nat → Bool) : (pats f (2 ^ L)).length = tal L f := by
  induction L generalizing f with
  | zero =>
    unfold pats tal
    have : pop 0 = 0 := by decide
    by_cases h : f 0 = true <;> simp [List.range_succ, this, h]
  | succ L ih =>
    unfold tal
    rw [← ih (by omega) f, ← ih (by omega) (fun i => f (i + 1))]
    unfold pats
    rw [Nat.pow_succ, Nat.mul_two, List.range_add, List.filter_append, List.length_append, List.filter_map, List.length_map]
    have e : ∀ x ∈ List.range (2 ^ L), ((fun x => f (pop x)) ∘ fun x => 2 ^ L + x) x = (fun x => f (pop x + 1)) x := by
      intro x hx
      have hx' : x < 2 ^ L := by simpa using hx
      simp only [Function.comp]
      rw [pop_top (by omega) hx']
    rw [List.filter_congr e]
/-- The numbers of Pascal's triangle. -/
def pas : Nat → Nat → Nat
  | 0, 0 => 1
  | 0, _ + 1 => 0
  | _ + 1, 0 => 1
  | L + 1, i + 1 => pas L (i + 1) + pas L i
theorem pas_zero (L : Nat) : pas L 0 = 1 := by cases L <;> rfl
theorem pas_out : ∀ {L i : Nat}, L < i → pas L i = 0
  | 0, i + 1, _ => rfl
  | L + 1, i + 1, h => by rw [pas, pas_out (show L < i + 1 by omega), pas_out (show L < i by omega)]
/-- A sum of those that f likes. -/
def sumF (c : Nat → Nat) (f : Nat → Bool) : Nat → Nat
  | 0 => 0
  | k + 1 => sumF c f k + (if f k = true then c k else 0)
theorem sumF_pas (L : Nat) (f : Nat → Bool) (k : Nat) : sumF (pas (L + 1)) f (k + 1) = sumF (pas L) f (k + 1) + sumF (pas L) (fun i => f (i + 1)) k := by
  induction k with
  | zero => simp [sumF, pas_zero]
  | succ k ih =>
    rw [show sumF (pas (L + 1)) f (k + 1 + 1) = sumF (pas (L + 1)) f (k + 1) + (if f (k + 1) = true then pas (L + 1) (k + 1) else 0) from rfl, ih,
      show sumF (pas L) f (k + 1 + 1) = sumF (pas L) f (k + 1) + (if f (k + 1) = true then pas L (k + 1) else 0) from rfl,
      show sumF (pas L) (fun i => f (i + 1)) (k + 1) = sumF (pas L) (fun i => f (i + 1)) k + (if f (k + 1) = true then pas L k else 0) from rfl]
    by_cases h : f (k + 1) = true
    · simp only [h, if_true]; rw [show pas (L + 1) (k + 1) = pas L (k + 1) + pas L k from rfl]; omega
    · simp only [h]; simp
theorem tal_sum (L : Nat) (f : Nat → Bool) : tal L f = sumF (pas L) f (L + 1) := by
  induction L generalizing f with
  | zero => simp [tal, sumF, pas]
  | succ L ih =>
    rw [tal, ih, ih, sumF_pas]
    rw [show sumF (pas L) f (L + 1 + 1) = sumF (pas L) f (L + 1) + (if f (L + 1) = true then pas L (L + 1) else 0) from rfl, pas_out (Nat.lt_succ_self L)]
    simp
/-- How many patterns have so many ones, as they are reckoned one from the other. -/
def wy (L : Nat) : Nat → Nat
  | 0 => 1
  | j + 1 => wy L j * (L - j) / (j + 1)
theorem wy_pas {L i : Nat} (hL : L ≤ 15) (hi : i ≤ L + 1) : wy L i = pas L i := by
  have : ∀ L : Fin 16, ∀ i : Fin 17, i.val ≤ L.val + 1 → wy L.val i.val = pas L.val i.val := by decide +kernel
  exact this ⟨L, by omega⟩ ⟨i, by omega⟩ hi
theorem wy_le {L i : Nat} (hL : L ≤ 15) (hi : i ≤ L + 1) : wy L i ≤ 6435 := by
  have : ∀ L : Fin 16, ∀ i : Fin 17, i.val ≤ L.val + 1 → wy L.val i.val ≤ 6435 := by decide +kernel
  exact this ⟨L, by omega⟩ ⟨i, by omega⟩ hi
theorem sumF_congr {c d : Nat → Nat} {f : Nat → Bool} {k : Nat} (h : ∀ i, i < k → c i = d i) : sumF c f k = sumF d f k := by
  induction k with
  | zero => rfl
  | succ k ih => rw [sumF, sumF, ih (fun i hi => h i (by omega)), h k (Nat.lt_succ_self k)]
/-- THE COUNT: the patterns that f likes are as many as the sum says. -/
theorem pats_sum {L : Nat} (hL : L ≤ 15) (f : Nat → Bool) : (pats f (2 ^ L)).length = sumF (wy L) f (L + 1) := by
  rw [pats_tal hL, tal_sum]
  exact sumF_congr fun i hi => (wy_pas hL (by omega)).symm
theorem sumF_le {L : Nat} (hL : L ≤ 15) (f : Nat → Bool) {k : Nat} (hk : k ≤ L + 2) : sumF (wy L) f k ≤ 6435 * k := by
  induction k with
  | zero => simp [sumF]
  | succ k ih =>
    have := ih (by omega)
    have := wy_le hL (i := k) (by omega)
    rw [sumF]
    split <;> omega
end Go.Proofs.YtnhpoefhcngoaaaDoor

namespace Go.Proofs.YtnhpoefhcngoaaaDoor

/-- The first m signs of a pattern of L signs, the highest bit first. -/
def patP (x L m : Nat) : List UInt8 := (List.range m).map fun (i : Nat) => par ((x / 2 ^ (L - 1 - i) : Nat) : Int)
theorem patP_succ (x L m : Nat) : patP x L (m + 1) = patP x L m ++ [par ((x / 2 ^ (L - 1 - m) : Nat) : Int)] := by simp [patP, List.range_succ]
theorem patP_length (x L m : Nat) : (patP x L m).length = m := by simp [patP]
theorem patP_signs (x L m : Nat) : Signs (patP x L m) := by
  intro c hc
  simp only [patP, List.mem_map] at hc
  obtain ⟨i, _, rfl⟩ := hc
  unfold par
  split <;> simp
/-- A pattern's signs: those of its half, and its last one. -/
theorem patP_half (x L : Nat) : patP x (L + 1) (L + 1) = patP (x / 2) L L ++ [par (x : Int)] := by
  rw [patP_succ]
  congr 1
  · unfold patP
    apply List.map_congr_left
    intro i hi
    have hi' : i < L := by simpa using hi
    congr 2
    rw [show L + 1 - 1 - i = (L - 1 - i) + 1 by omega, Nat.pow_succ, Nat.mul_comm, Nat.div_div_eq_div_mul]
  · simp
theorem count_pat : ∀ (L f x : Nat), L ≤ f → x < 2 ^ L → (patP x L L).count 111 = Lib.popAux f x
  | 0, f, x, _, hx => by
    have : x = 0 := by simpa using hx
    subst this
    have : ∀ f, Lib.popAux f 0 = 0 := by
      intro f
      induction f with
      | zero => rfl
      | succ f ih => rw [Lib.popAux]; simpa using ih
    rw [this]; rfl
  | L + 1, f, x, hf, hx => by
    obtain ⟨g, rfl⟩ : ∃ g, f = g + 1 := ⟨f - 1, by omega⟩
    rw [patP_half, List.count_append, count_pat L g (x / 2) (by omega) (by rw [Nat.pow_succ] at hx; omega), Lib.popAux, Nat.add_comm]
    congr 1
    unfold par
    by_cases h : (x : Int) % 2 = 0
    · rw [if_pos h]; have : x % 2 = 0 := by omega
      rw [this]; rfl
    · rw [if_neg h]; have : x % 2 = 1 := by omega
      rw [this]; rfl
theorem count_pop {L x : Nat} (hL : L ≤ 15) (hx : x < 2 ^ L) : (patP x L L).count 111 = pop x := count_pat L 16 x (by omega) hx
end Go.Proofs.YtnhpoefhcngoaaaDoor
