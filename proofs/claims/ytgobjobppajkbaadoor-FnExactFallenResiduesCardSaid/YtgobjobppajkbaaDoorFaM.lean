/-
  FALLS OF RESIDUES: plain mathematics. No program.
-/
import Derived.Test.YtgobjobppajkbaaDoorWord
import Derived.Test.YtgobjobppajkbaaDoorPowM
namespace Go.Proofs.YtgobjobppajkbaaDoor

/-- Does a word of L signs with i odd ones fall? -/
def fl (t : Int) (i L : Nat) : Bool := decide (t ^ i < 2 ^ L)
theorem fl_bl {t p : Int} (hg : goodB t p = true) {i : Nat} (hi : i ≤ 20) (L : Nat) : fl t i L = decide (bl t i ≤ L) := (falls_iff hg hi L).symm
theorem pow_mono {t : Int} (h : 1 ≤ t) {j k : Nat} (hjk : j ≤ k) : t ^ j ≤ t ^ k := by
  obtain ⟨d, rfl⟩ : ∃ d, k = j + d := ⟨k - j, by omega⟩
  rw [Int.pow_add]
  have h1 : (0 : Int) < t ^ j := Int.pow_pos (by omega)
  have h2 : (0 : Int) < t ^ d := Int.pow_pos (by omega)
  have := Int.mul_le_mul_of_nonneg_left (c := t ^ j) (show (1 : Int) ≤ t ^ d by omega) (Int.le_of_lt h1)
  omega
/-- What the loop of the program ends with. -/
theorem fl_end {t : Int} (h : 1 ≤ t) {j K L : Nat} (hj : j ≤ K) (he : j = K ∨ ¬ t ^ j < 2 ^ L) : decide (t ^ j < 2 ^ L) = fl t K L := by
  unfold fl
  rcases he with rfl | he
  · rfl
  · have := pow_mono h hj
    rw [decide_eq_false he, decide_eq_false (by omega)]
/-- How many odd signs the first j have. -/
def od (t p n : Int) (j : Nat) : Nat := (wrd t p n j).count 111
theorem od_zero (t p n : Int) : od t p n 0 = 0 := rfl
theorem od_succ (t p n : Int) (j : Nat) : od t p n (j + 1) = od t p n j + if par (itr (sx t p) j n) = 111 then 1 else 0 := by
  unfold od
  rw [wrd_succ, List.count_append, List.count_singleton]
  by_cases h : par (itr (sx t p) j n) = 111 <;> simp [h]
theorem od_le (t p n : Int) (j : Nat) : od t p n j ≤ j := by
  unfold od
  have := List.count_le_length (a := (111 : UInt8)) (l := wrd t p n j)
  rw [wrd_length] at this
  exact this
theorem od_mod {t p : Int} (hg : goodB t p = true) (n : Int) {j k : Nat} (h : j ≤ k) : od t p (n % 2 ^ k) j = od t p n j := by
  unfold od
  rw [(wrd_inj hg (n % 2 ^ k) n j).2 (Int.emod_emod_of_dvd _ ⟨2 ^ (k - j), by rw [← Int.pow_add]; congr 1; omega⟩)]
/-- Behind how many of the first k signs a residue falls; 0: it is left. -/
def fa (t p n : Int) : Nat → Nat
  | 0 => 0
  | k + 1 => if fa t p n k ≠ 0 then fa t p n k else if fl t (od t p n (k + 1)) (k + 1) = true then k + 1 else 0
theorem fa_le (t p n : Int) (k : Nat) : fa t p n k ≤ k := by
  induction k with
  | zero => exact Nat.le_refl _
  | succ k ih =>
    rw [fa]
    split
    · omega
    · split <;> omega
theorem fa_hit {t p n : Int} {k : Nat} (h0 : fa t p n k = 0) (h : fl t (od t p n (k + 1)) (k + 1) = true) : ∀ {K : Nat}, k < K → fa t p n K = k + 1 := by
  intro K hK
  induction K with
  | zero => omega
  | succ K ih =>
    by_cases e : K = k
    · subst e; rw [fa, if_neg (by simp [h0]), if_pos h]
    · rw [fa, ih (by omega), if_pos (by omega)]
theorem fa_miss {t p n : Int} {k : Nat} (h0 : fa t p n k = 0) (h : fl t (od t p n (k + 1)) (k + 1) = false) : fa t p n (k + 1) = 0 := by
  rw [fa, if_neg (by simp [h0]), if_neg (by simp [h])]
theorem fa_mod {t p : Int} (hg : goodB t p = true) (n : Int) {j k : Nat} (h : j ≤ k) : fa t p (n % 2 ^ k) j = fa t p n j := by
  induction j with
  | zero => rfl
  | succ j ih => rw [fa, fa, ih (by omega), od_mod hg n h]
/-- Numbers with one residue fall alike. -/
theorem fa_at {t p n : Int} {K j : Nat} (h : fa t p n K = j) (hj : j ≠ 0) : j ≤ K ∧ fl t (od t p n j) j = true ∧ fa t p n (j - 1) = 0 := by
  induction K with
  | zero => rw [fa] at h; omega
  | succ K ih =>
    rw [fa] at h
    split at h
    · obtain ⟨h1, h2, h3⟩ := ih h
      exact ⟨by omega, h2, h3⟩
    · rename_i h0
      split at h
      · rename_i h2
        subst h
        exact ⟨Nat.le_refl _, h2, by simpa using h0⟩
      · omega

/-- How many words of k signs that are left have o odd ones. -/
def wyR (t : Int) : Nat → Nat → Nat
  | 0, o => if o = 0 then 1 else 0
  | k + 1, o => if fl t o (k + 1) = true then 0 else wyR t k o + (if o = 0 then 0 else wyR t k (o - 1))
/-- Before falling words are left out. -/
def sm (t : Int) (k o : Nat) : Nat := wyR t k o + (if o = 0 then 0 else wyR t k (o - 1))
theorem wyR_succ (t : Int) (k o : Nat) : wyR t (k + 1) o = if fl t o (k + 1) = true then 0 else sm t k o := rfl
theorem wyR_gt (t : Int) : ∀ {k o : Nat}, k < o → wyR t k o = 0
  | 0, o, h => by rw [wyR, if_neg (by omega)]
  | k + 1, o, h => by
    rw [wyR_succ]
    split
    · rfl
    · rw [sm, wyR_gt t (by omega), if_neg (by omega), wyR_gt t (by omega)]
theorem sm_gt (t : Int) {k o : Nat} (h : k + 1 < o) : sm t k o = 0 := by
  rw [sm, wyR_gt t (by omega), if_neg (by omega), wyR_gt t (by omega)]
/-- The sum of the first n of a function. -/
def sumR (f : Nat → Nat) : Nat → Nat
  | 0 => 0
  | n + 1 => sumR f n + f n
theorem sumR_congr {f g : Nat → Nat} {n : Nat} (h : ∀ o, o < n → f o = g o) : sumR f n = sumR g n := by
  induction n with
  | zero => rfl
  | succ n ih => rw [sumR, sumR, ih (fun o ho => h o (by omega)), h n (by omega)]
theorem sumR_add (f g : Nat → Nat) (n : Nat) : sumR (fun o => f o + g o) n = sumR f n + sumR g n := by
  induction n with
  | zero => rfl
  | succ n ih => rw [sumR, sumR, sumR, ih]; omega
theorem sumR_le {f g : Nat → Nat} {n : Nat} (h : ∀ o, o < n → f o ≤ g o) : sumR f n ≤ sumR g n := by
  induction n with
  | zero => exact Nat.le_refl _
  | succ n ih => rw [sumR, sumR]; have := ih (fun o ho => h o (by omega)); have := h n (by omega); omega
theorem sumR_far (f : Nat → Nat) {n m : Nat} (h : n ≤ m) (h0 : ∀ o, n ≤ o → f o = 0) : sumR f m = sumR f n := by
  induction m with
  | zero => obtain rfl : n = 0 := by omega
            rfl
  | succ m ih =>
    by_cases e : n = m + 1
    · rw [e]
    · rw [sumR, ih (by omega), h0 m (by omega), Nat.add_zero]
theorem sumR_shift (f : Nat → Nat) (n : Nat) : sumR (fun o => if o = 0 then 0 else f (o - 1)) (n + 1) = sumR f n := by
  induction n with
  | zero => rfl
  | succ n ih => rw [sumR, ih, sumR, if_neg (by omega), Nat.add_sub_cancel]
/-- How many are left. -/
def lf (t : Int) (k : Nat) : Nat := sumR (wyR t k) (k + 1)
theorem sum_sm (t : Int) (k : Nat) : sumR (sm t k) (k + 2) = 2 * lf t k := by
  show sumR (fun o => wyR t k o + (if o = 0 then 0 else wyR t k (o - 1))) (k + 2) = _
  rw [sumR_add, sumR_shift (wyR t k) (k + 1), sumR, wyR_gt t (show k < k + 1 by omega), lf]
  omega
theorem lf_far (t : Int) {k n : Nat} (h : k + 1 ≤ n) : sumR (wyR t k) n = lf t k := sumR_far _ h (fun o ho => wyR_gt t (by omega))
theorem lf_succ_le (t : Int) (k : Nat) : lf t (k + 1) ≤ 2 * lf t k := by
  rw [← sum_sm]
  exact sumR_le (fun o _ => by rw [wyR_succ]; split <;> omega)
theorem lf_le (t : Int) (k : Nat) : lf t k ≤ 2 ^ k := by
  induction k with
  | zero => exact Nat.le_refl _
  | succ k ih => have := lf_succ_le t k; rw [Nat.pow_succ]; omega
theorem le_sumR (f : Nat → Nat) {o n : Nat} (h : o < n) : f o ≤ sumR f n := by
  induction n with
  | zero => omega
  | succ n ih =>
    rw [sumR]
    by_cases e : o = n
    · subst e; omega
    · have := ih (by omega); omega
theorem wyR_le (t : Int) (k o : Nat) : wyR t k o ≤ 2 ^ k := by
  by_cases h : o < k + 1
  · exact Nat.le_trans (le_sumR (wyR t k) h) (lf_le t k)
  · rw [wyR_gt t (by omega)]; exact Nat.zero_le _
theorem sm_le (t : Int) (k o : Nat) : sm t k o ≤ 2 ^ (k + 1) := by
  unfold sm
  have := wyR_le t k o
  have := wyR_le t k (o - 1)
  rw [Nat.pow_succ]
  split <;> omega
theorem sumR_mono (f : Nat → Nat) {a b : Nat} (h : a ≤ b) : sumR f a ≤ sumR f b := by
  induction b with
  | zero => obtain rfl : a = 0 := by omega
            exact Nat.le_refl _
  | succ b ih =>
    by_cases e : a = b + 1
    · rw [e]; exact Nat.le_refl _
    · have := ih (by omega); rw [sumR]; omega
theorem pow30 {k : Nat} (h : k ≤ 31) : 2 ^ k ≤ 2147483648 := Nat.le_trans (Nat.pow_le_pow_right (by decide) h) (by decide)

/-- What the model counts in a round: the words that fall, of the first j odd numbers. -/
def fn (t : Int) (k : Nat) (j : Nat) : Nat := sumR (fun o => (if fl t o (k + 1) = true then wyR t k o else 0) + (if fl t (o + 1) (k + 1) = true then wyR t k o else 0)) j
/-- What the next list of the model holds behind the first j odd numbers. -/
def nxt (t : Int) (k j o : Nat) : Nat := if fl t o (k + 1) = true then 0 else (if o < j then wyR t k o else 0) + (if 1 ≤ o ∧ o ≤ j then wyR t k (o - 1) else 0)
/-- .. behind the first of the two calls of a round. -/
def nxh (t : Int) (k j o : Nat) : Nat := if fl t o (k + 1) = true then 0 else (if o ≤ j then wyR t k o else 0) + (if 1 ≤ o ∧ o ≤ j then wyR t k (o - 1) else 0)
def fnh (t : Int) (k j : Nat) : Nat := fn t k j + (if fl t j (k + 1) = true then wyR t k j else 0)
theorem nxt_zero (t : Int) (k o : Nat) : nxt t k 0 o = 0 := by
  unfold nxt
  split
  · rfl
  · rw [if_neg (by omega), if_neg (by omega)]
theorem nxt_full (t : Int) (k o : Nat) (h : o ≤ k + 1) : nxt t k (k + 1) o = wyR t (k + 1) o := by
  rw [nxt, wyR_succ, sm]
  split
  · rfl
  · by_cases h1 : o < k + 1
    · rw [if_pos h1]
      by_cases h2 : o = 0
      · rw [if_neg (by omega), if_pos h2]
      · rw [if_pos (by omega), if_neg h2]
    · obtain rfl : o = k + 1 := by omega
      rw [if_neg (by omega), if_pos (by omega), wyR_gt t (show k < k + 1 by omega), if_neg (by omega)]
theorem nxh_fall {t : Int} {k j : Nat} (h : fl t j (k + 1) = true) : nxh t k j = nxt t k j := by
  funext o
  rw [nxh, nxt]
  split
  · rfl
  · rename_i h1
    have : o ≠ j := fun e => h1 (e ▸ h)
    by_cases h2 : o < j
    · rw [if_pos (by omega), if_pos h2]
    · rw [if_neg (by omega), if_neg h2]
theorem nxh_stay {t : Int} {k j : Nat} (h : fl t j (k + 1) = false) (o : Nat) : nxh t k j o = if o = j then nxt t k j j + wyR t k j else nxt t k j o := by
  rw [nxh, nxt, nxt]
  by_cases e : o = j
  · subst e
    have hf : ¬ fl t o (k + 1) = true := by simp [h]
    rw [if_pos rfl, if_neg hf, if_neg hf, if_pos (Nat.le_refl o), if_neg (Nat.lt_irrefl o)]
    omega
  · rw [if_neg e]
    split
    · rfl
    · by_cases h2 : o < j
      · rw [if_pos (by omega), if_pos h2]
      · rw [if_neg (by omega), if_neg h2]
theorem nxt_fall {t : Int} {k j : Nat} (h : fl t (j + 1) (k + 1) = true) : nxt t k (j + 1) = nxh t k j := by
  funext o
  rw [nxh, nxt]
  split
  · rfl
  · rename_i h1
    have : o ≠ j + 1 := fun e => h1 (e ▸ h)
    by_cases h2 : o ≤ j
    · rw [if_pos (by omega), if_pos h2]
      by_cases h3 : 1 ≤ o
      · rw [if_pos (by omega), if_pos (by omega)]
      · rw [if_neg (by omega), if_neg (by omega)]
    · rw [if_neg (by omega), if_neg h2, if_neg (by omega), if_neg (by omega)]
theorem nxt_stay {t : Int} {k j : Nat} (h : fl t (j + 1) (k + 1) = false) (o : Nat) : nxt t k (j + 1) o = if o = j + 1 then nxh t k j (j + 1) + wyR t k j else nxh t k j o := by
  rw [nxh, nxh, nxt]
  by_cases e : o = j + 1
  · subst e
    have hf : ¬ fl t (j + 1) (k + 1) = true := by simp [h]
    have h1 : ¬ (j + 1 < j + 1) := by omega
    have h2 : 1 ≤ j + 1 ∧ j + 1 ≤ j + 1 := by omega
    have h3 : ¬ (j + 1 ≤ j) := by omega
    have h4 : ¬ (1 ≤ j + 1 ∧ j + 1 ≤ j) := by omega
    rw [if_neg hf, if_neg h1, if_pos h2, if_pos rfl, if_neg hf, if_neg h3, if_neg h4]
    simp
  · rw [if_neg e]
    split
    · rfl
    · by_cases h2 : o ≤ j
      · rw [if_pos (by omega), if_pos h2]
        by_cases h3 : 1 ≤ o
        · rw [if_pos (by omega), if_pos (by omega)]
        · rw [if_neg (by omega), if_neg (by omega)]
      · rw [if_neg (by omega), if_neg h2, if_neg (by omega), if_neg (by omega)]
theorem fnh_fall {t : Int} {k j : Nat} (h : fl t j (k + 1) = true) : fnh t k j = fn t k j + wyR t k j := by rw [fnh, if_pos h]
theorem fnh_stay {t : Int} {k j : Nat} (h : fl t j (k + 1) = false) : fnh t k j = fn t k j := by rw [fnh, if_neg (by simp [h])]; rfl
theorem fn_fall {t : Int} {k j : Nat} (h : fl t (j + 1) (k + 1) = true) : fn t k (j + 1) = fnh t k j + wyR t k j := by
  show sumR _ j + _ = sumR _ j + _ + _
  simp only [h, if_true]
  omega
theorem fn_stay {t : Int} {k j : Nat} (h : fl t (j + 1) (k + 1) = false) : fn t k (j + 1) = fnh t k j := by
  show sumR _ j + _ = sumR _ j + _
  simp only [h, Bool.false_eq_true, if_false]
  omega
/-- All that were left fall now or are left again. -/
theorem fn_lf (t : Int) (k : Nat) : fn t k (k + 1) + lf t (k + 1) = 2 * lf t k := by
  have h1 : fn t k (k + 1) = sumR (fun o => if fl t o (k + 1) = true then wyR t k o else 0) (k + 2) + sumR (fun o => if o = 0 then 0 else (fun o => if fl t (o + 1) (k + 1) = true then wyR t k o else 0) (o - 1)) (k + 2) := by
    have e := sumR_shift (fun o => if fl t (o + 1) (k + 1) = true then wyR t k o else 0) (k + 1)
    rw [e, fn, sumR_add]
    congr 1
    rw [sumR_far (n := k + 1) (m := k + 2) _ (by omega)]
    intro o ho
    rw [wyR_gt t (by omega)]
    split <;> rfl
  rw [h1, ← sumR_add, lf, ← sumR_add, ← sum_sm]
  refine sumR_congr (fun o ho => ?_)
  dsimp only
  rw [wyR_succ, sm]
  by_cases h : fl t o (k + 1) = true
  · rw [if_pos h, if_pos h]
    by_cases h0 : o = 0
    · rw [if_pos h0, if_pos h0]
    · rw [if_neg h0, if_neg h0, Nat.sub_add_cancel (by omega), if_pos h, Nat.add_zero]
  · rw [if_neg h, if_neg h]
    by_cases h0 : o = 0
    · rw [if_pos h0, if_pos h0]; omega
    · rw [if_neg h0, if_neg h0, Nat.sub_add_cancel (by omega), if_neg h]; omega
theorem fn_le (t : Int) (k : Nat) {j : Nat} (h : j ≤ k + 1) : fn t k j ≤ 2 ^ (k + 1) := by
  have h1 : fn t k j ≤ fn t k (k + 1) := sumR_mono _ h
  have := fn_lf t k
  have := lf_le t k
  rw [Nat.pow_succ]
  omega
end Go.Proofs.YtgobjobppajkbaaDoor
