/-
  THE MATHEMATICS OF 'WordsAround': what a word does, its number, its turns. No Go, no program.
-/
import Derived.Test.YtnhpoefhcngoaaaDoorCyM
import Derived.Test.YtnhpoefhcngoaaaDoorTurnM
import Derived.Test.YtnhpoefhcngoaaaDoorFtM
namespace Go.Proofs.YtnhpoefhcngoaaaDoor
set_option linter.unusedVariables false

/-- p is the power of Times that the word has odd steps. -/
theorem wa_pow (t p : Int) (l : List UInt8) : (doesL t p l).1 = t ^ (l.count 111) := by
  rw [doesL_R]
  induction l with
  | nil => simp [doesR]
  | cons c l ih =>
    unfold doesR
    by_cases h : c = 111
    · subst h
      rw [if_pos rfl]
      dsimp only
      rw [ih, List.count_cons_self, Int.pow_succ, Int.mul_comm]
    · rw [if_neg h]
      dsimp only
      rw [ih, List.count_cons_of_ne h]
/-- The number's parts in lowest terms are the same fraction. -/
theorem wa_low {a b : Int} (hb : 1 ≤ b) : 1 ≤ b.tdiv (Int.gcd a b) ∧ a * b.tdiv (Int.gcd a b) = a.tdiv (Int.gcd a b) * b := by
  have h1 : (Int.gcd a b : Int) ∣ a := Int.gcd_dvd_left ..
  have h2 : (Int.gcd a b : Int) ∣ b := Int.gcd_dvd_right ..
  have hg : (0 : Int) < (Int.gcd a b : Nat) := by
    have : Int.gcd a b ≠ 0 := by
      intro e
      have := (Int.gcd_eq_zero_iff.1 e).2
      omega
    omega
  obtain ⟨x, hx⟩ := h1
  obtain ⟨y, hy⟩ := h2
  generalize ((Int.gcd a b : Nat) : Int) = g at *
  have hg0 : g ≠ 0 := by omega
  rw [hx, hy, Int.mul_tdiv_cancel_left _ hg0, Int.mul_tdiv_cancel_left _ hg0]
  refine ⟨?_, by grind⟩
  rw [hy] at hb
  rcases Int.lt_or_le y 1 with h | h
  · have : g * y ≤ 0 := Int.mul_nonpos_of_nonneg_of_nonpos (by omega) (by omega)
    omega
  · exact h
theorem wa_den {t p : Int} (hg : goodB t p = true) {l : List UInt8} (hl : 1 ≤ l.length) : 1 ≤ (numW t p l).2 := (wa_low (a := (rawN t p l).1) (rawN_pos hg hl)).1
theorem wa_eq {t p : Int} (hg : goodB t p = true) {l : List UInt8} (hl : 1 ≤ l.length) : (doesL t p l).2.1 * (numW t p l).2 = (numW t p l).1 * ((doesL t p l).2.2 - (doesL t p l).1) := by
  have h := (wa_low (a := (rawN t p l).1) (rawN_pos hg hl)).2
  have h2 : (rawN t p l).1 * (numW t p l).2 = (numW t p l).1 * (rawN t p l).2 := h
  generalize numW t p l = z at h2 ⊢
  unfold rawN at h2
  split at h2
  · dsimp only at h2
    rw [Int.neg_mul, Int.mul_neg] at h2
    omega
  · exact h2
/-- Is the number whole? Just if some number is not changed. -/
theorem wa_whole {t p : Int} (hg : goodB t p = true) {l : List UInt8} (hl : 1 ≤ l.length) {n : Int} (h : (doesR t p l).1 * n + (doesR t p l).2.1 = (doesR t p l).2.2 * n) : (numW t p l).2 = 1 ∧ (numW t p l).1 = n := by
  have hr : (rawN t p l).1 = n * (rawN t p l).2 := (rawN_eq t p l n).2 (by rw [doesL_R]; grind)
  have hp := rawN_pos hg hl
  unfold numW
  dsimp only
  generalize (rawN t p l).1 = a at *
  generalize (rawN t p l).2 = b at *
  subst hr
  have hgc : ((Int.gcd (n * b) b : Nat) : Int) = b := by
    rw [Int.gcd_comm, Int.gcd_eq_natAbs_left_iff_dvd.2 ⟨n, Int.mul_comm _ _⟩]
    omega
  rw [hgc]
  exact ⟨Int.tdiv_self (by omega), Int.mul_tdiv_cancel _ (by omega)⟩
theorem wa_app (t p : Int) (a : List UInt8) : ∀ b : List UInt8, doesR t p (a ++ b) = ((doesR t p a).1 * (doesR t p b).1, (doesR t p b).1 * (doesR t p a).2.1 + (doesR t p a).2.2 * (doesR t p b).2.1, (doesR t p a).2.2 * (doesR t p b).2.2) := by
  intro b
  rw [← doesL_R, ← doesL_R t p a]
  unfold doesL
  rw [List.foldl_append, doesR_fold]
/-- A cycle word's last turn is one too. -/
theorem wa_turn {t p : Int} (hg : goodB t p = true) {a b : List UInt8} (hs : Signs (a ++ b)) (hl : 1 ≤ (a ++ b).length) (h1 : (numW t p (a ++ b)).2 = 1) : (numW t p (b ++ a)).2 = 1 := by
  have h2 := (rawN_eq t p (a ++ b) _).1 ((numW_one hg hl).1 h1).1
  rw [doesL_R] at h2
  obtain ⟨n, hn⟩ : ∃ n, (numW t p (a ++ b)).1 = n := ⟨_, rfl⟩
  rw [hn, wa_app] at h2
  dsimp only at h2
  -- behind a it is a whole number m with p_a n + q_a = d_a m
  have hw := cyc_word hg hs hl h1
  rw [hn] at hw
  have hsa : Signs a := fun c hc => hs c (List.mem_append_left _ hc)
  have hm : (doesR t p a).1 * n + (doesR t p a).2.1 = (doesR t p a).2.2 * itr (sx t p) a.length n := by
    have hwa : wrd t p n a.length = a := by
      have := congrArg (List.take a.length) hw.1
      rw [List.take_left] at this
      rw [← this]
      unfold wrd
      rw [← List.map_take, List.take_range]
      congr 2
      simp
    clear hw h2 hn h1 hl hs
    generalize hk : a.length = k at hwa
    rw [← hwa]
    clear hwa hk hsa
    induction k generalizing n with
    | zero => simp [wrd, doesR, itr]
    | succ k ih =>
      have hwd : wrd t p n (k + 1) = par n :: wrd t p (sx t p n) k := by
        unfold wrd
        rw [List.range_succ_eq_map, List.map_cons, List.map_map]
        rfl
      have hi := ih (sx t p n)
      have hit : itr (sx t p) (k + 1) n = itr (sx t p) k (sx t p n) := rfl
      rw [hwd, hit]
      unfold doesR
      rcases hx : doesR t p (wrd t p (sx t p n) k) with ⟨P, Q, D⟩
      rw [hx] at hi
      dsimp only at hi
      obtain ⟨g1, g2, g3, g4, g5, g6⟩ := goodB_iff.1 hg
      by_cases e : n % 2 = 0
      · have : par n = 101 := by unfold par; rw [if_pos e]
        rw [this, if_neg (by decide)]
        dsimp only
        have hsx : sx t p n = n / 2 := if_pos e
        have h3 : n = 2 * sx t p n := by omega
        generalize sx t p n = y at *
        generalize itr (sx t p) k y = z at *
        subst h3
        grind
      · have : par n = 111 := by unfold par; rw [if_neg e]
        rw [this, if_pos rfl]
        dsimp only
        have hsx : sx t p n = (t * n + p) / 2 := if_neg e
        have hev : (t * n + p) % 2 = 0 := odd_even g3 g6 e
        have h3 : t * n + p = 2 * sx t p n := by omega
        generalize sx t p n = y at *
        generalize itr (sx t p) k y = z at *
        grind
  generalize itr (sx t p) a.length n = m at hm
  refine (wa_whole hg (n := m) (by rw [List.length_append] at hl ⊢; omega) ?_).1
  rw [wa_app]
  dsimp only
  -- d_a d_b is no zero: cancel d_a
  have hda : (doesR t p a).2.2 ≠ 0 := by
    have := (doesR_bound hg a).2.2.2.1
    rw [doesL_R] at this
    rw [this]
    have : (0 : Int) < 2 ^ a.length := by
      have := Nat.two_pow_pos a.length
      exact_mod_cast this
    omega
  generalize doesR t p a = A at *
  generalize doesR t p b = B at *
  obtain ⟨A1, A2, A3⟩ := A
  obtain ⟨B1, B2, B3⟩ := B
  dsimp only at *
  have h4 : A3 * (B1 * m + B2) = A3 * (B3 * n) := by grind
  have h5 : B1 * m + B2 = B3 * n := Int.eq_of_mul_eq_mul_left hda h4
  grind
/-- The map of the other sign. -/
theorem wa_neg (t p : Int) (l : List UInt8) : doesL t (-p) l = ((doesL t p l).1, -(doesL t p l).2.1, (doesL t p l).2.2) := by
  rw [doesL_R, doesL_R]
  induction l with
  | nil => rfl
  | cons c l ih =>
    unfold doesR
    rw [ih]
    split
    · simp only [Prod.mk.injEq]
      exact ⟨trivial, by grind, trivial⟩
    · simp only [Prod.mk.injEq]
      exact ⟨trivial, by grind, trivial⟩
theorem wa_mirror (t p : Int) (l : List UInt8) : numW t (-p) l = (-(numW t p l).1, (numW t p l).2) := by
  have hr : rawN t (-p) l = (-(rawN t p l).1, (rawN t p l).2) := by
    unfold rawN
    rw [wa_neg]
    dsimp only
    split <;> simp
  unfold numW
  rw [hr]
  dsimp only
  rw [Int.neg_gcd, Int.neg_tdiv]
/-- The least of the first k turns: one of them, and none is less. -/
theorem ltk_mem (l : List UInt8) (k : Nat) : ltk l k = l ∨ ∃ j, j < k ∧ ltk l k = rotL l j := by
  induction k with
  | zero => exact .inl rfl
  | succ k ih =>
    rw [ltk]
    split
    · exact .inr ⟨k, Nat.lt_succ_self k, rfl⟩
    · rcases ih with h | ⟨j, hj, h⟩
      · exact .inl h
      · exact .inr ⟨j, by omega, h⟩
theorem ltk_min (l : List UInt8) (k : Nat) : ltk l k ≤ l ∧ ∀ j, j < k → ltk l k ≤ rotL l j := by
  induction k with
  | zero => exact ⟨List.le_refl _, fun j hj => absurd hj (Nat.not_lt_zero _)⟩
  | succ k ih =>
    rw [ltk]
    split
    · rename_i h
      refine ⟨List.le_trans (List.le_of_lt h) ih.1, fun j hj => ?_⟩
      by_cases e : j = k
      · subst e; exact List.le_refl _
      · exact List.le_trans (List.le_of_lt h) (ih.2 j (by omega))
    · rename_i h
      refine ⟨ih.1, fun j hj => ?_⟩
      by_cases e : j = k
      · subst e; exact List.not_lt.1 h
      · exact ih.2 j (by omega)
theorem least_mem (l : List UInt8) : ∃ j, j ≤ l.length ∧ leastT l = rotL l j := by
  rcases ltk_mem l l.length with h | ⟨j, hj, h⟩
  · exact ⟨l.length, Nat.le_refl _, by rw [rotL_all]; exact h⟩
  · exact ⟨j, by omega, h⟩
theorem least_min (l : List UInt8) {j : Nat} (hj : j ≤ l.length) : leastT l ≤ rotL l j := by
  by_cases e : j = l.length
  · subst e; rw [rotL_all]; exact (ltk_min l l.length).1
  · exact (ltk_min l l.length).2 j (by omega)
theorem least_le (l : List UInt8) : leastT l ≤ l := (ltk_min l l.length).1
theorem rot_rot (l : List UInt8) {i j : Nat} (hi : i ≤ l.length) (hj : j ≤ l.length) : rotL (rotL l i) j = rotL l (if i + j ≤ l.length then i + j else i + j - l.length) := by
  unfold rotL
  have hd : (l.drop i).length = l.length - i := List.length_drop ..
  split
  · rename_i h
    rw [List.drop_append_of_le_length (by omega), List.take_append_of_le_length (by omega), List.drop_drop, List.append_assoc]
    congr 1
    rw [List.take_add]
  · rename_i h
    have hz : List.drop j (List.drop i l) = [] := List.drop_of_length_le (by omega)
    have hd2 : j - (l.length - i) = i + j - l.length := by omega
    have e1 : (l.drop i ++ l.take i).drop j = (l.take i).drop (i + j - l.length) := by rw [List.drop_append, hz, List.nil_append, hd, hd2]
    have e2 : (l.drop i ++ l.take i).take j = l.drop i ++ l.take (i + j - l.length) := by
      have hy : List.take j (List.drop i l) = List.drop i l := List.take_of_length_le (by omega)
      rw [List.take_append, hy, hd, hd2, List.take_take, Nat.min_eq_left (by omega)]
    have e3 : (l.take i).drop (i + j - l.length) ++ l.drop i = l.drop (i + j - l.length) := by
      rw [List.drop_take]
      have : l.drop i = (l.drop (i + j - l.length)).drop (i - (i + j - l.length)) := by rw [List.drop_drop]; congr 1; omega
      rw [this, List.take_append_drop]
    rw [e1, e2, ← List.append_assoc, e3]
/-- The turns of a turn are the word's turns. -/
theorem least_turn (l : List UInt8) {i : Nat} (hi : i ≤ l.length) : leastT (rotL l i) = leastT l := by
  have hlen : (rotL l i).length = l.length := rotL_length l i
  refine List.le_antisymm ?_ ?_
  · obtain ⟨j, hj, e⟩ := least_mem l
    rw [e]
    -- rotL l j is a turn of rotL l i
    by_cases h : i ≤ j
    · have := least_min (rotL l i) (j := j - i) (by omega)
      rw [rot_rot l hi (by omega), if_pos (by omega), show i + (j - i) = j by omega] at this
      exact this
    · have h1 := least_min (rotL l i) (j := j + l.length - i) (by omega)
      rw [rot_rot l hi (by omega)] at h1
      by_cases h2 : i + (j + l.length - i) ≤ l.length
      · rw [if_pos h2, show i + (j + l.length - i) = l.length by omega, rotL_all] at h1
        obtain rfl : j = 0 := by omega
        rw [rotL_zero]
        exact h1
      · rw [if_neg h2, show i + (j + l.length - i) - l.length = j by omega] at h1
        exact h1
  · obtain ⟨j, hj, e⟩ := least_mem (rotL l i)
    rw [e, rot_rot l hi (by omega)]
    split
    · exact least_min l (by omega)
    · exact least_min l (by omega)
/-- The turn back. -/
theorem turn_back (l : List UInt8) {k : Nat} (hk : k < l.length) : rotL (rotL l k) ((l.length - k) % l.length) = l := by
  by_cases h : k = 0
  · subst h
    rw [Nat.sub_zero, Nat.mod_self, rotL_zero, rotL_zero]
  · rw [Nat.mod_eq_of_lt (by omega), rot_rot l (by omega) (by omega), if_pos (by omega), show k + (l.length - k) = l.length by omega, rotL_all]
theorem turn_last (l : List UInt8) (hl : 1 ≤ l.length) : ∃ a b, l = a ++ b ∧ rotL l (l.length - 1) = b ++ a := ⟨l.take (l.length - 1), l.drop (l.length - 1), (List.take_append_drop _ _).symm, rfl⟩
end Go.Proofs.YtnhpoefhcngoaaaDoor
