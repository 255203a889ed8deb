/-
  PLAIN MATHEMATICS OF CHAPTER 7: machines; primes divided out; what a number is made of. No Go, no program.
-/
import Derived.Test.YtgobjobppajkbaaDoorMath
namespace Go.Proofs.YtgobjobppajkbaaDoor
set_option linter.unusedVariables false

/-- Are all of a list in lo..hi? -/
def inAll (xs : List Int) (lo hi : Int) : Bool := xs.all fun x => decide (lo ≤ x ∧ x ≤ hi)
/-- Is it a machine? -/
def maB (ns ds : List Int) : Bool := decide (ns.length = ds.length) && decide (ns.length ≤ 12) && inAll ns 1 100000 && inAll ds 1 100000
/-- Is it a number of machines? -/
def manB (n : Int) : Bool := decide (1 ≤ n ∧ n ≤ 1000000000000)
theorem manB_iff {n : Int} : manB n = true ↔ 1 ≤ n ∧ n ≤ 1000000000000 := by simp [manB]

theorem ediv_shrink {p n : Int} (h2 : 2 ≤ p) (h1 : 0 < n) (hm : n % p = 0) : 0 < n / p ∧ n / p < n ∧ p * (n / p) = n := by
  have he := Int.mul_ediv_add_emod n p
  rw [hm] at he
  have hp : 0 < n / p := by
    rcases (show 0 < n / p ∨ n / p ≤ 0 by omega) with h | h
    · exact h
    · have h3 : p * (n / p) ≤ 0 := Int.mul_nonpos_of_nonneg_of_nonpos (by omega) h
      omega
  refine ⟨hp, ?_, by omega⟩
  have := Int.mul_le_mul_of_nonneg_right h2 (Int.le_of_lt hp)
  omega

/-- A number divided by p as often as it can be, and how often. -/
def dvo (p n : Int) : Int × Nat :=
  if h : 2 ≤ p ∧ 0 < n ∧ n % p = 0 then ((dvo p (n / p)).1, (dvo p (n / p)).2 + 1) else (n, 0)
termination_by n.natAbs
decreasing_by
  all_goals
    have := ediv_shrink h.1 h.2.1 h.2.2
    omega
theorem dvo_yes {p n : Int} (h2 : 2 ≤ p) (h1 : 0 < n) (hm : n % p = 0) : dvo p n = ((dvo p (n / p)).1, (dvo p (n / p)).2 + 1) := by rw [dvo, dif_pos ⟨h2, h1, hm⟩]
theorem dvo_no {p n : Int} (hm : n % p ≠ 0) : dvo p n = (n, 0) := by rw [dvo, dif_neg (fun x => hm x.2.2)]
theorem dvo_left {p : Int} (h2 : 2 ≤ p) : ∀ (K : Nat) {n : Int}, n.natAbs ≤ K → 1 ≤ n → 1 ≤ (dvo p n).1 ∧ (dvo p n).1 ≤ n ∧ (dvo p n).1 * p ^ (dvo p n).2 = n ∧ (dvo p n).1 % p ≠ 0 := by
  intro K
  induction K with
  | zero => intro n h h1; omega
  | succ K ih =>
    intro n h h1
    by_cases hm : n % p = 0
    · obtain ⟨a, b, c⟩ := ediv_shrink h2 (by omega) hm
      obtain ⟨i1, i2, i3, i4⟩ := ih (n := n / p) (by omega) (by omega)
      rw [dvo_yes h2 (by omega) hm]
      refine ⟨i1, by dsimp only; omega, ?_, i4⟩
      dsimp only
      rw [Int.pow_succ, ← Int.mul_assoc, i3, Int.mul_comm, c]
    · rw [dvo_no hm]
      exact ⟨h1, Int.le_refl _, by simp, hm⟩
theorem dvo_self {n : Int} (h : 2 ≤ n) : dvo n n = (1, 1) := by
  rw [dvo_yes h (by omega) (Int.emod_self)]
  rw [Int.ediv_self (by omega), dvo_no (by rw [Int.emod_eq_of_lt (by omega) (by omega)]; omega)]
theorem dvo_zero {p n : Int} (h2 : 2 ≤ p) (h1 : 1 ≤ n) : (dvo p n).2 = 0 → (dvo p n).1 = n := by
  intro h
  have := (dvo_left h2 n.natAbs (Nat.le_refl _) h1).2.2.1
  rw [h] at this
  simpa using this
/-- How often at most: a number below 2 ^ 40 at most 40 times. -/
theorem dvo_few {p : Int} (h2 : 2 ≤ p) : ∀ (K : Nat) {n : Int}, 1 ≤ n → n < 2 ^ K → (dvo p n).2 < K := by
  intro K
  induction K with
  | zero => intro n h h1; simp at h1; omega
  | succ K ih =>
    intro n h h1
    by_cases hm : n % p = 0
    · obtain ⟨a, b, c⟩ := ediv_shrink h2 (by omega) hm
      rw [dvo_yes h2 (by omega) hm]
      have hlt : n / p < 2 ^ K := by
        have := Int.mul_le_mul_of_nonneg_right h2 (Int.le_of_lt a)
        rw [Int.pow_succ] at h1
        omega
      have := ih (n := n / p) (by omega) hlt
      dsimp only
      omega
    · rw [dvo_no hm]; dsimp only; omega

/-- What a number is made of, from p on. -/
def fac (p n : Int) : List (Int × Int) :=
  if h : 2 ≤ p ∧ 1 ≤ n ∧ p * p ≤ n then (if 0 < (dvo p n).2 then [(p, ((dvo p n).2 : Int))] else []) ++ fac (p + 1) (dvo p n).1 else if 1 < n then [(n, 1)] else []
termination_by (n + 1 - p).toNat
decreasing_by
  have h1 := (dvo_left h.1 n.natAbs (Nat.le_refl _) h.2.1).2.1
  have h2 := Int.mul_le_mul_of_nonneg_right h.1 (show (0 : Int) ≤ p by omega)
  omega
theorem fac_step {p n : Int} (h2 : 2 ≤ p) (h1 : 1 ≤ n) (h : p * p ≤ n) : fac p n = (if 0 < (dvo p n).2 then [(p, ((dvo p n).2 : Int))] else []) ++ fac (p + 1) (dvo p n).1 := by rw [fac, dif_pos ⟨h2, h1, h⟩]
theorem fac_take {p n : Int} (h2 : 2 ≤ p) (h1 : 1 ≤ n) (h : p * p ≤ n) (h0 : 0 < (dvo p n).2) : fac p n = (p, ((dvo p n).2 : Int)) :: fac (p + 1) (dvo p n).1 := by rw [fac_step h2 h1 h, if_pos h0]; rfl
theorem fac_skip {p n : Int} (h2 : 2 ≤ p) (h1 : 1 ≤ n) (h : p * p ≤ n) (h0 : ¬ 0 < (dvo p n).2) : fac p n = fac (p + 1) (dvo p n).1 := by rw [fac_step h2 h1 h, if_neg h0]; rfl
theorem fac_last {p n : Int} (h : n < p * p) (h1 : 1 < n) : fac p n = [(n, 1)] := by rw [fac, dif_neg (fun x => by omega), if_pos h1]
theorem fac_one {p : Int} (h : 2 ≤ p) : fac p 1 = [] := by
  have h2 := Int.mul_le_mul_of_nonneg_right h (show (0 : Int) ≤ p by omega)
  rw [fac, dif_neg (fun x => by omega), if_neg (by omega)]
/-- What such a list comes to. -/
def prodL : List (Int × Int) → Int
  | [] => 1
  | x :: r => x.1 ^ x.2.toNat * prodL r
theorem one_all {n : Int} (h : 2 ≤ n) : prodL [(n, 1)] = n ∧ ∀ x ∈ [(n, (1 : Int))], 2 ≤ x.1 ∧ 1 ≤ x.2 := by
  refine ⟨by simp [prodL, Int.pow_succ], fun x hx => ?_⟩
  obtain rfl : x = (n, 1) := List.mem_singleton.1 hx
  exact ⟨h, by simp⟩
theorem fac_all : ∀ (K : Nat) {p n : Int}, (n + 1 - p).toNat ≤ K → 2 ≤ p → 1 ≤ n → prodL (fac p n) = n ∧ ∀ x ∈ fac p n, 2 ≤ x.1 ∧ 1 ≤ x.2 := by
  intro K
  induction K with
  | zero =>
    intro p n h h2 h1
    have h3 := Int.mul_le_mul_of_nonneg_right h2 (show (0 : Int) ≤ p by omega)
    by_cases e : 1 < n
    · rw [fac_last (by omega) e]; exact one_all (by omega)
    · obtain rfl : n = 1 := by omega
      rw [fac_one h2]; simp [prodL]
  | succ K ih =>
    intro p n h h2 h1
    by_cases hs : p * p ≤ n
    · have h3 := Int.mul_le_mul_of_nonneg_right h2 (show (0 : Int) ≤ p by omega)
      obtain ⟨i1, i2, i3, i4⟩ := dvo_left h2 n.natAbs (Nat.le_refl _) h1
      obtain ⟨j1, j2⟩ := ih (p := p + 1) (n := (dvo p n).1) (by omega) (by omega) i1
      by_cases h0 : 0 < (dvo p n).2
      · rw [fac_take h2 h1 hs h0]
        refine ⟨?_, ?_⟩
        · rw [prodL, j1]; dsimp only; rw [Int.toNat_natCast, Int.mul_comm]; exact i3
        · intro x hx
          rcases List.mem_cons.1 hx with rfl | hx
          · exact ⟨h2, by dsimp only; omega⟩
          · exact j2 x hx
      · rw [fac_skip h2 h1 hs h0]
        exact ⟨by rw [j1]; exact dvo_zero h2 h1 (by omega), j2⟩
    · by_cases e : 1 < n
      · rw [fac_last (by omega) e]; exact one_all (by omega)
      · obtain rfl : n = 1 := by omega
        rw [fac_one h2]; simp [prodL]
/-- How long the list is at most: each prime at least doubles. -/
theorem prodL_len : ∀ (l : List (Int × Int)), (∀ x ∈ l, 2 ≤ x.1 ∧ 1 ≤ x.2) → (2 : Int) ^ l.length ≤ prodL l := by
  intro l
  induction l with
  | nil => intro _; simp [prodL]
  | cons x r ih =>
    intro h
    have h1 := h x (by simp)
    have h2 := ih (fun y hy => h y (by simp [hy]))
    rw [List.length_cons, Int.pow_succ, prodL]
    have h3 : (2 : Int) ≤ x.1 ^ x.2.toNat := by
      obtain ⟨e, he⟩ : ∃ e : Nat, x.2.toNat = e + 1 := ⟨x.2.toNat - 1, by omega⟩
      rw [he, Int.pow_succ]
      have : 1 ≤ x.1 ^ e := by
        have := Int.pow_pos (n := x.1) (m := e) (by omega)
        omega
      have := Int.mul_le_mul this h1.1 (by omega) (by omega)
      omega
    have h4 : (0 : Int) < 2 ^ r.length := Int.pow_pos (by omega)
    calc (2 : Int) ^ r.length * 2 = 2 * 2 ^ r.length := Int.mul_comm _ _
      _ ≤ x.1 ^ x.2.toNat * prodL r := Int.mul_le_mul h3 h2 (by omega) (by omega)
theorem fac_len {n : Int} (h1 : 1 ≤ n) (h2 : n ≤ 1000000000000) : (fac 2 n).length ≤ 40 := by
  obtain ⟨a, b⟩ := fac_all _ (Nat.le_refl _) (show (2 : Int) ≤ 2 by omega) h1
  have := prodL_len _ b
  rw [a] at this
  rcases Nat.lt_or_ge 40 (fac 2 n).length with h | h
  · have h3 : (2 : Int) ^ 41 ≤ 2 ^ (fac 2 n).length := by
      have := Nat.pow_le_pow_right (n := 2) (by omega) (show 41 ≤ (fac 2 n).length by omega)
      exact_mod_cast this
    have : (2 : Int) ^ 41 = 2199023255552 := by decide
    omega
  · exact h
/-- Is p a prime: the one of its own number. -/
def prB (p : Int) : Bool := decide (2 ≤ p) && (match fac 2 p with | [x] => decide (x.2 = 1) | _ => false)
theorem prB_first {p : Int} (h : 2 ≤ p) {x : Int × Int} (hx : fac 2 p = [x]) : (x.2 = 1) ↔ (x.1 = p) := by
  obtain ⟨a, b⟩ := fac_all _ (Nat.le_refl _) (show (2 : Int) ≤ 2 by omega) (show 1 ≤ p by omega)
  rw [hx] at a b
  have hb := b x (by simp)
  simp only [prodL, Int.mul_one] at a
  constructor
  · intro e
    rw [e, show (1 : Int).toNat = 0 + 1 from rfl, Int.pow_succ] at a
    simpa using a
  · intro e
    rcases (show 1 < x.2 ∨ x.2 ≤ 1 by omega) with hl | hl
    · obtain ⟨k, hk⟩ : ∃ k : Nat, x.2.toNat = k + 2 := ⟨x.2.toNat - 2, by omega⟩
      rw [hk, Int.pow_succ, Int.pow_succ] at a
      have h1 : 1 ≤ x.1 ^ k := by
        have := Int.pow_pos (n := x.1) (m := k) (by omega)
        omega
      have h2 : x.1 ≤ x.1 ^ k * x.1 := by
        have := Int.mul_le_mul_of_nonneg_right h1 (show (0 : Int) ≤ x.1 by omega)
        omega
      have h3 := Int.mul_le_mul h2 hb.1 (by omega) (by omega)
      omega
    · omega
theorem inAll_at {xs : List Int} {lo hi : Int} (h : inAll xs lo hi = true) {j : Nat} (hj : j < xs.length) : lo ≤ xs.getD j 0 ∧ xs.getD j 0 ≤ hi := by
  unfold inAll at h
  rw [List.all_eq_true] at h
  have := h _ (List.getElem_mem hj)
  rw [List.getD_eq_getElem?_getD, List.getElem?_eq_getElem hj]
  simpa using this
theorem maB_parts {ns ds : List Int} (h : maB ns ds = true) : ns.length = ds.length ∧ ns.length ≤ 12 ∧ (∀ j, j < ns.length → 1 ≤ ns.getD j 0 ∧ ns.getD j 0 ≤ 100000) ∧ (∀ j, j < ns.length → 1 ≤ ds.getD j 0 ∧ ds.getD j 0 ≤ 100000) := by
  unfold maB at h
  rw [Bool.and_eq_true, Bool.and_eq_true, Bool.and_eq_true, decide_eq_true_eq, decide_eq_true_eq] at h
  obtain ⟨⟨⟨h1, h2⟩, h3⟩, h4⟩ := h
  exact ⟨h1, h2, fun j hj => inAll_at h3 hj, fun j hj => inAll_at h4 (by omega)⟩
end Go.Proofs.YtgobjobppajkbaaDoor
