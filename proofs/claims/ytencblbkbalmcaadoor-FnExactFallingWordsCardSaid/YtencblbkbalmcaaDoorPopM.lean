/-
  HOW MANY PATTERNS HAVE SO MANY ONES: plain mathematics. No program.
-/
import Derived.Test.YtencblbkbalmcaaDoorPowM
namespace Go.Proofs.YtencblbkbalmcaaDoor

/-- The number of ones of a number. -/
def pop (x : Nat) : Nat := Lib.popAux 16 x
theorem popAux_top : ∀ (L f x : Nat), L < f → x < 2 ^ L → Lib.popAux f (2 ^ L + x) = Lib.popAux f x + 1
  | 0, f, x, hf, hx => by
    obtain ⟨g, rfl⟩ : ∃ g, f = g + 1 := ⟨f - 1, by omega⟩
    have : x = 0 := by simpa using hx
    subst this
    simp [Lib.popAux]
    omega
  | L + 1, f, x, hf, hx => by
    obtain ⟨g, rfl⟩ : ∃ g, f = g + 1 := ⟨f - 1, by omega⟩
    have ih := popAux_top L g (x / 2) (by omega) (by rw [Nat.pow_succ] at hx; omega)
    have e1 : (2 ^ (L + 1) + x) % 2 = x % 2 := by rw [Nat.pow_succ]; omega
    have e2 : (2 ^ (L + 1) + x) / 2 = 2 ^ L + x / 2 := by rw [Nat.pow_succ]; omega
    rw [Lib.popAux, Lib.popAux, e1, e2, ih]
    omega
theorem pop_top {L x : Nat} (hL : L < 16) (hx : x < 2 ^ L) : pop (2 ^ L + x) = pop x + 1 := popAux_top L 16 x hL hx
theorem pop_le {L x : Nat} (hL : L ≤ 15) (hx : x < 2 ^ L) : pop x ≤ L := by
  induction L generalizing x with
  | zero => have : x = 0 := by simpa using hx
            subst this; decide
  | succ L ih =>
    by_cases h : x < 2 ^ L
    · have := ih (by omega) h; omega
    · obtain ⟨y, rfl⟩ : ∃ y, x = 2 ^ L + y := ⟨x - 2 ^ L, by omega⟩
      have hy : y < 2 ^ L := by rw [Nat.pow_succ] at hx; omega
      rw [pop_top (by omega) hy]
      have := ih (by omega) hy
      omega

/-- How many of the first 2 to the power of L numbers have a number of ones that f likes. -/
def tal : Nat → (Nat → Bool) → Nat
  | 0, f => if f 0 then 1 else 0
  | L + 1, f => tal L f + tal L (fun i => f (i + 1))
/-- The list of the patterns below n that f likes. -/
def pats (f : Nat → Bool) (n : Nat) : List Nat := (List.range n).filter fun x => f (pop x)
theorem pats_succ (f : Nat → Bool) (n : Nat) : pats f (n + 1) = pats f n ++ (if f (pop n) = true then [n] else []) := by
  unfold pats
  rw [List.range_succ, List.filter_append]
  by_cases h : f (pop n) = true <;> simp [h]
theorem pats_len_le (f : Nat → Bool) (n : Nat) : (pats f n).length ≤ n := by
  have := List.length_filter_le (fun x => f (pop x)) (List.range n)
  simpa [pats] using this
theorem pats_tal {L : Nat} (hL : L ≤ 15) (f : Nat → Bool) : (pats f (2 ^ L)).length = tal L f := by
  induction L generalizing f with
  | zero =>
    unfold pats tal
    have : pop 0 = 0 := by decide
    by_cases h : f 0 = true <;> simp [List.range_succ, this, h]
  | succ L ih =>
    unfold tal
    rw [← ih (by omega) f, ← ih (by omega) (fun i => f (i + 1))]
    unfold pats
    rw [Nat.pow_succ, Nat.mul_two, List.range_add, List.filter_append, List.length_append, List.filter_map, List.length_map]
    have e : ∀ x ∈ List.range (2 ^ L), ((fun x => f (pop x)) ∘ fun x => 2 ^ L + x) x = (fun x => f (pop x + 1)) x := by
      intro x hx
      have hx' : x < 2 ^ L := by simpa using hx
      simp only [Function.comp]
      rw [pop_top (by omega) hx']
    rw [List.filter_congr e]
/-- The numbers of Pascal's triangle. -/
def pas : Nat → Nat → Nat
  | 0, 0 => 1
  | 0, _ + 1 => 0
  | _ + 1, 0 => 1
  | L + 1, i + 1 => pas L (i + 1) + pas L i
theorem pas_zero (L : Nat) : pas L 0 = 1 := by cases L <;> rfl
theorem pas_out : ∀ {L i : Nat}, L < i → pas L i = 0
  | 0, i + 1, _ => rfl
  | L + 1, i + 1, h => by rw [pas, pas_out (show L < i + 1 by omega), pas_out (show L < i by omega)]
/-- A sum of those that f likes. -/
def sumF (c : Nat → Nat) (f : Nat → Bool) : Nat → Nat
  | 0 => 0
  | k + 1 => sumF c f k + (if f k = true then c k else 0)
theorem sumF_pas (L : Nat) (f : Nat → Bool) (k : Nat) : sumF (pas (L + 1)) f (k + 1) = sumF (pas L) f (k + 1) + sumF (pas L) (fun i => f (i + 1)) k := by
  induction k with
  | zero => simp [sumF, pas_zero]
  | succ k ih =>
    rw [show sumF (pas (L + 1)) f (k + 1 + 1) = sumF (pas (L + 1)) f (k + 1) + (if f (k + 1) = true then pas (L + 1) (k + 1) else 0) from rfl, ih,
      show sumF (pas L) f (k + 1 + 1) = sumF (pas L) f (k + 1) + (if f (k + 1) = true then pas L (k + 1) else 0) from rfl,
      show sumF (pas L) (fun i => f (i + 1)) (k + 1) = sumF (pas L) (fun i => f (i + 1)) k + (if f (k + 1) = true then pas L k else 0) from rfl]
    by_cases h : f (k + 1) = true
    · simp only [h, if_true]; rw [show pas (L + 1) (k + 1) = pas L (k + 1) + pas L k from rfl]; omega
    · simp only [h]; simp
theorem tal_sum (L : Nat) (f : Nat → Bool) : tal L f = sumF (pas L) f (L + 1) := by
  induction L generalizing f with
  | zero => simp [tal, sumF, pas]
  | succ L ih =>
    rw [tal, ih, ih, sumF_pas]
    rw [show sumF (pas L) f (L + 1 + 1) = sumF (pas L) f (L + 1) + (if f (L + 1) = true then pas L (L + 1) else 0) from rfl, pas_out (Nat.lt_succ_self L)]
    simp
/-- How many patterns have so many ones, as they are reckoned one from the other. -/
def wy (L : Nat) : Nat → Nat
  | 0 => 1
  | j + 1 => wy L j * (L - j) / (j + 1)
theorem wy_pas {L i : Nat} (hL : L ≤ 15) (hi : i ≤ L + 1) : wy L i = pas L i := by
  have : ∀ L : Fin 16, ∀ i : Fin 17, i.val ≤ L.val + 1 → wy L.val i.val = pas L.val i.val := by decide +kernel
  exact this ⟨L, by omega⟩ ⟨i, by omega⟩ hi
theorem wy_le {L i : Nat} (hL : L ≤ 15) (hi : i ≤ L + 1) : wy L i ≤ 6435 := by
  have : ∀ L : Fin 16, ∀ i : Fin 17, i.val ≤ L.val + 1 → wy L.val i.val ≤ 6435 := by decide +kernel
  exact this ⟨L, by omega⟩ ⟨i, by omega⟩ hi
theorem sumF_congr {c d : Nat → Nat} {f : Nat → Bool} {k : Nat} (h : ∀ i, i < k → c i = d i) : sumF c f k = sumF d f k := by
  induction k with
  | zero => rfl
  | succ k ih => rw [sumF, sumF, ih (fun i hi => h i (by omega)), h k (Nat.lt_succ_self k)]
/-- THE COUNT: the patterns that f likes are as many as the sum says. -/
theorem pats_sum {L : Nat} (hL : L ≤ 15) (f : Nat → Bool) : (pats f (2 ^ L)).length = sumF (wy L) f (L + 1) := by
  rw [pats_tal hL, tal_sum]
  exact sumF_congr fun i hi => (wy_pas hL (by omega)).symm
theorem sumF_le {L : Nat} (hL : L ≤ 15) (f : Nat → Bool) {k : Nat} (hk : k ≤ L + 2) : sumF (wy L) f k ≤ 6435 * k := by
  induction k with
  | zero => simp [sumF]
  | succ k ih =>
    have := ih (by omega)
    have := wy_le hL (i := k) (by omega)
    rw [sumF]
    split <;> omega
end Go.Proofs.YtencblbkbalmcaaDoor
