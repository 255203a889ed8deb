/-
  PLAIN MATHEMATICS OF CHAPTER 1: maps, steps, short steps, what is behind so many of them while all on the way are numbers. No Go, no program.
-/

namespace Go.Proofs.YtnhpoefhcngoaaaDoor

/-- Is it a map? -/
def goodB (t p : Int) : Bool := decide (1 ≤ t ∧ t ≤ 9 ∧ t % 2 = 1 ∧ -9 ≤ p ∧ p ≤ 9 ∧ p % 2 = 1)
/-- Is it a number? -/
def numB (n : Int) : Bool := decide (-1000000000000 ≤ n ∧ n ≤ 1000000000000)
/-- A step. -/
def nx (t p n : Int) : Int := if n % 2 = 0 then n / 2 else t * n + p
/-- A short step. -/
def sx (t p n : Int) : Int := if n % 2 = 0 then n / 2 else (t * n + p) / 2
/-- What is behind k steps of a kind. -/
def itr (f : Int → Int) : Nat → Int → Int
  | 0, n => n
  | k + 1, n => itr f k (f n)
theorem itr_succ (f : Int → Int) (k : Nat) (n : Int) : itr f (k + 1) n = f (itr f k n) := by
  induction k generalizing n with
  | zero => rfl
  | succ k ih => rw [itr, ih, itr]
/-- Are the first k numbers of the way (0 to k - 1 steps) all numbers? -/
def allB (f : Int → Int) (n : Int) : Nat → Bool
  | 0 => true
  | k + 1 => allB f n k && numB (itr f k n)
theorem allB_succ (f : Int → Int) (n : Int) (k : Nat) : allB f n (k + 1) = (allB f n k && numB (itr f k n)) := rfl
theorem allB_le {f : Int → Int} {n : Int} {j k : Nat} (h : j ≤ k) (hk : allB f n k = true) : allB f n j = true := by
  induction k with
  | zero => obtain rfl : j = 0 := by omega
            exact hk
  | succ k ih =>
    by_cases e : j = k + 1
    · subst e; exact hk
    · rw [allB_succ, Bool.and_eq_true] at hk
      exact ih (by omega) hk.1
theorem allB_at {f : Int → Int} {n : Int} {j k : Nat} (h : j < k) (hk : allB f n k = true) : numB (itr f j n) = true := by
  have := allB_le (j := j + 1) (k := k) h hk
  rw [allB_succ, Bool.and_eq_true] at this
  exact this.2
/-- The word's other end: the way from the second number on. -/
theorem allB_shift (f : Int → Int) (n : Int) (k : Nat) : allB f n (k + 1) = (numB n && allB f (f n) k) := by
  induction k with
  | zero => simp [allB, itr]
  | succ k ih =>
    rw [allB_succ, ih, allB_succ, show itr f (k + 1) n = itr f k (f n) from rfl, Bool.and_assoc]

theorem goodB_iff {t p : Int} : goodB t p = true ↔ 1 ≤ t ∧ t ≤ 9 ∧ t % 2 = 1 ∧ -9 ≤ p ∧ p ≤ 9 ∧ p % 2 = 1 := by simp [goodB]
theorem numB_iff {n : Int} : numB n = true ↔ -1000000000000 ≤ n ∧ n ≤ 1000000000000 := by simp [numB]

theorem mul_bound {t n B : Int} (h1 : 1 ≤ t) (h2 : t ≤ 9) (h3 : -B ≤ n) (h4 : n ≤ B) : -(9 * B) ≤ t * n ∧ t * n ≤ 9 * B := by
  have ht : t = 1 ∨ t = 2 ∨ t = 3 ∨ t = 4 ∨ t = 5 ∨ t = 6 ∨ t = 7 ∨ t = 8 ∨ t = 9 := by omega
  rcases ht with rfl | rfl | rfl | rfl | rfl | rfl | rfl | rfl | rfl <;> omega
theorem mul_big {t n : Int} (hg : 1 ≤ t ∧ t ≤ 9) (hn : numB n = true) : -9000000000000 ≤ t * n ∧ t * n ≤ 9000000000000 := by
  have h := numB_iff.1 hn
  have := mul_bound (B := 1000000000000) hg.1 hg.2 (by omega) h.2
  omega
theorem nx_bound {t p n : Int} (hg : goodB t p = true) (hn : numB n = true) : -9000000000009 ≤ nx t p n ∧ nx t p n ≤ 9000000000009 := by
  have g := goodB_iff.1 hg
  have h := numB_iff.1 hn
  have m := mul_big ⟨g.1, g.2.1⟩ hn
  unfold nx
  split <;> omega
theorem sx_bound {t p n : Int} (hg : goodB t p = true) (hn : numB n = true) : -9000000000009 ≤ sx t p n ∧ sx t p n ≤ 9000000000009 := by
  have g := goodB_iff.1 hg
  have h := numB_iff.1 hn
  have m := mul_big ⟨g.1, g.2.1⟩ hn
  unfold sx
  split <;> omega
/-- A number that is not 0, halved as often as it can be, and how often. -/
def hlv (n : Int) : Int × Nat :=
  if h : n ≠ 0 ∧ n % 2 = 0 then ((hlv (n / 2)).1, (hlv (n / 2)).2 + 1) else (n, 0)
termination_by n.natAbs
decreasing_by omega
theorem hlv_even {n : Int} (h0 : n ≠ 0) (h : n % 2 = 0) : hlv n = ((hlv (n / 2)).1, (hlv (n / 2)).2 + 1) := by rw [hlv, dif_pos ⟨h0, h⟩]
theorem hlv_odd {n : Int} (h : n % 2 ≠ 0) : hlv n = (n, 0) := by rw [hlv, dif_neg (fun x => h x.2)]

/-- How many numbers of the way, the first K at most, are numbers one after the other. -/
def cntF (f : Int → Int) : Nat → Int → Nat
  | 0, _ => 0
  | K + 1, n => if numB n = true then cntF f K (f n) + 1 else 0
theorem lt_cnt (f : Int → Int) (K : Nat) : ∀ (n : Int) (k : Nat), k < cntF f K n ↔ k < K ∧ allB f n (k + 1) = true := by
  induction K with
  | zero => intro n k; simp [cntF]
  | succ K ih =>
    intro n k
    rw [cntF, allB_shift]
    by_cases hn : numB n = true
    · rw [if_pos hn, hn, Bool.true_and]
      cases k with
      | zero => simp [allB]
      | succ k => rw [Nat.succ_lt_succ_iff, ih, Nat.succ_lt_succ_iff]
    · rw [if_neg hn]; simp [hn]
/-- Where the numbers end. -/
theorem cnt_eq {f : Int → Int} {K : Nat} {n : Int} {j : Nat} (hj : j ≤ K) (hall : allB f n j = true) (hend : j = K ∨ numB (itr f j n) = false) : cntF f K n = j := by
  have h1 : ¬ j < cntF f K n := by
    rw [lt_cnt]
    rintro ⟨h, h'⟩
    rcases hend with rfl | hend
    · omega
    · rw [allB_succ, hend, Bool.and_false] at h'
      exact Bool.noConfusion h'
  have h2 : ∀ i, i < j → i < cntF f K n := fun i hi => (lt_cnt _ _ _ _).2 ⟨by omega, allB_le (by omega) hall⟩
  cases j with
  | zero => omega
  | succ i => have := h2 i (by omega); omega
/-- The first k pairs: how many steps, and what is behind them. -/
def upto (f : Int → Int) (n : Int) (k : Nat) : List (Int × Int) := (List.range k).map fun (i : Nat) => ((i : Int), itr f i n)
theorem upto_succ (f : Int → Int) (n : Int) (k : Nat) : upto f n (k + 1) = upto f n k ++ [((k : Int), itr f k n)] := by
  simp [upto, List.range_succ]
theorem upto_length (f : Int → Int) (n : Int) (k : Nat) : (upto f n k).length = k := by simp [upto]
theorem upto_prefix (f : Int → Int) (n : Int) {j k : Nat} (h : j ≤ k) : upto f n j <+: upto f n k := by
  induction k with
  | zero => obtain rfl : j = 0 := by omega
            exact List.prefix_refl _
  | succ k ih =>
    by_cases e : j = k + 1
    · subst e; exact List.prefix_refl _
    · rw [upto_succ]; exact (ih (by omega)).trans (List.prefix_append _ _)
/-- What a walk gives, one pair after the other. -/
def seqOf (t p : Int) (f : Int → Int) (n : Int) : List (Int × Int) := if goodB t p = true then upto f n (cntF f 1001 n) else []
/-- A prefix of what a walk gives is the first k pairs. -/
theorem prefix_upto {f : Int → Int} {n : Int} {K : Nat} {l : List (Int × Int)} (h : l <+: upto f n K) : l = upto f n l.length ∧ l.length ≤ K := by
  have hl : l.length ≤ K := by have := h.length_le; rwa [upto_length] at this
  refine ⟨?_, hl⟩
  have h1 := upto_prefix f n hl
  have := List.prefix_of_prefix_length_le h h1 (by rw [upto_length]; exact Nat.le_refl _)
  exact this.eq_of_length (by rw [upto_length])

/-- An odd number taken an odd number of times, and an odd number added, is even. -/
theorem odd_even {t p n : Int} (ht : t % 2 = 1) (hp : p % 2 = 1) (hn : n % 2 ≠ 0) : (t * n + p) % 2 = 0 := by
  have h1 : n % 2 = 1 := by omega
  have h2 : (t * n) % 2 = 1 := by rw [Int.mul_emod, ht, h1]; rfl
  omega
end Go.Proofs.YtnhpoefhcngoaaaDoor
