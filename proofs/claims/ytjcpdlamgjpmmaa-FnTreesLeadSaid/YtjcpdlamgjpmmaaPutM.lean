/-
  A NUMBER PUT INTO AN INCREASING LIST WHERE IT BELONGS. No program.
  TREES: numbers before numbers, levels, sorted lists. No program.
  TREES: how the program tells the odd number before a number; barren numbers; levels of different numbers, in order. No program.
-/
import Derived.Test.YtjcpdlamgjpmmaaMath
import Derived.Maps.Views
import Derived.Lib.SlKeysI
namespace Go.Proofs.Ytjcpdlamgjpmmaa
open Go.Maps

/-- How many at the list's beginning are less. -/
def posI (x : Int) : List Int → Nat
  | [] => 0
  | y :: ys => if y < x then posI x ys + 1 else 0
def putI (x : Int) (xs : List Int) : List Int := xs.take (posI x xs) ++ x :: xs.drop (posI x xs)
theorem posI_le (x : Int) (xs : List Int) : posI x xs ≤ xs.length := by
  induction xs with
  | nil => exact Nat.le_refl _
  | cons y ys ih => rw [posI]; split <;> simp <;> omega
theorem posI_before {x : Int} : ∀ {xs : List Int} {j : Nat}, j < posI x xs → xs.getD j 0 < x
  | [], j, h => by simp [posI] at h
  | y :: ys, j, h => by
    rw [posI] at h
    split at h
    · rename_i hy
      cases j with
      | zero => exact hy
      | succ j => exact posI_before (xs := ys) (by omega)
    · omega
theorem posI_at {x : Int} : ∀ {xs : List Int}, posI x xs < xs.length → ¬ xs.getD (posI x xs) 0 < x
  | [], h => by simp [posI] at h
  | y :: ys, h => by
    by_cases hy : y < x
    · have e : posI x (y :: ys) = posI x ys + 1 := by rw [posI, if_pos hy]
      rw [e] at h ⊢
      exact posI_at (xs := ys) (by simpa using h)
    · have e : posI x (y :: ys) = 0 := by rw [posI, if_neg hy]
      rw [e]
      exact hy
theorem putI_nil (x : Int) : putI x [] = [x] := rfl
theorem putI_lt {x y : Int} (ys : List Int) (h : y < x) : putI x (y :: ys) = y :: putI x ys := by simp [putI, posI, h]
theorem putI_ge {x y : Int} (ys : List Int) (h : ¬ y < x) : putI x (y :: ys) = x :: y :: ys := by simp [putI, posI, h]
theorem mem_putI {x z : Int} {xs : List Int} : z ∈ putI x xs ↔ z = x ∨ z ∈ xs := by
  have h : xs.take (posI x xs) ++ xs.drop (posI x xs) = xs := List.take_append_drop _ _
  have h2 : z ∈ xs ↔ z ∈ xs.take (posI x xs) ∨ z ∈ xs.drop (posI x xs) := by
    constructor
    · intro hz; rw [← h] at hz; simpa using List.mem_append.1 hz
    · intro hz; rw [← h]; exact List.mem_append.2 hz
  rw [h2, putI, List.mem_append, List.mem_cons]
  constructor
  · rintro (a | b | c)
    · exact .inr (.inl a)
    · exact .inl b
    · exact .inr (.inr c)
  · rintro (a | b | c)
    · exact .inr (.inl a)
    · exact .inl b
    · exact .inr (.inr c)
theorem putI_length (x : Int) (xs : List Int) : (putI x xs).length = xs.length + 1 := by
  have := posI_le x xs
  simp [putI]
  omega
theorem putI_ne (x : Int) (xs : List Int) : putI x xs ≠ [] := by
  intro e
  have := putI_length x xs
  rw [e] at this
  simp at this
theorem putI_sorted {x : Int} : ∀ {xs : List Int}, xs.Pairwise (· < ·) → x ∉ xs → (putI x xs).Pairwise (· < ·)
  | [], _, _ => by rw [putI_nil]; simp
  | y :: ys, h, hx => by
    rw [List.pairwise_cons] at h
    by_cases hy : y < x
    · rw [putI_lt ys hy, List.pairwise_cons]
      refine ⟨fun z hz => ?_, putI_sorted h.2 (fun e => hx (List.mem_cons_of_mem _ e))⟩
      rcases mem_putI.1 hz with rfl | hz
      · exact hy
      · exact h.1 z hz
    · rw [putI_ge ys hy, List.pairwise_cons]
      have hxy : x < y := by
        have : x ≠ y := fun e => hx (by rw [e]; exact List.mem_cons_self ..)
        omega
      refine ⟨fun z hz => ?_, List.pairwise_cons.2 h⟩
      rcases List.mem_cons.1 hz with rfl | hz
      · exact hxy
      · have := h.1 z hz; omega

/-- An increasing list is what it sorts to. -/
theorem sorted_ms {xs ss : List Int} (hs : xs.Pairwise (· < ·)) (hp : ss.Perm xs) : ss.mergeSort (fun x y => decide (x ≤ y)) = xs := by
  have h1 := mergeSort_of_perm_i hp
  have h2 : xs.mergeSort leI = xs := List.mergeSort_of_pairwise (hs.imp (fun h => by simp only [leI, decide_eq_true_eq]; omega))
  exact h1.trans h2
end Go.Proofs.Ytjcpdlamgjpmmaa

namespace Go.Proofs.Ytjcpdlamgjpmmaa

/-- The odd number before a number. -/
def oddBf (t p n : Int) : Option Int := if (n - p).tdiv t * t + p = n ∧ (n - p).tdiv t % 2 ≠ 0 ∧ numB ((n - p).tdiv t) = true then some ((n - p).tdiv t) else none
def dblL (n : Int) : List Int := if numB (2 * n) = true then [2 * n] else []
def putO (o : Option Int) (l : List Int) : List Int := match o with
  | some x => putI x l
  | none => l
/-- The numbers before a number; by short steps. -/
def befL (t p n : Int) : List Int := putO (oddBf t p n) (dblL n)
def befS (t p n : Int) : List Int := putO (oddBf t p (2 * n)) (dblL n)
def befB (short : Bool) (t p n : Int) : List Int := if short = true then befS t p n else befL t p n

theorem oddBf_iff {t p n x : Int} (hg : goodB t p = true) : oddBf t p n = some x ↔ numB x = true ∧ x % 2 ≠ 0 ∧ t * x + p = n := by
  obtain ⟨g1, _⟩ := goodB_iff.1 hg
  have key : ∀ {y : Int}, t * y + p = n → (n - p).tdiv t = y := by
    intro y h
    have : n - p = t * y := by omega
    rw [this, Int.mul_tdiv_cancel_left _ (by omega)]
  unfold oddBf
  constructor
  · intro h
    split at h
    · rename_i hc
      cases h
      exact ⟨hc.2.2, hc.2.1, by rw [Int.mul_comm]; exact hc.1⟩
    · cases h
  · rintro ⟨h1, h2, h3⟩
    have e := key h3
    rw [e, if_pos ⟨by rw [Int.mul_comm]; exact h3, h2, h1⟩]
theorem mem_dblL {n x : Int} : x ∈ dblL n ↔ numB x = true ∧ x = 2 * n := by
  unfold dblL
  split
  · rename_i h
    simp only [List.mem_singleton]
    exact ⟨fun e => ⟨by rw [e]; exact h, e⟩, fun h => h.2⟩
  · rename_i h
    simp only [List.not_mem_nil, false_iff]
    rintro ⟨h1, h2⟩
    rw [h2] at h1
    exact h h1
theorem mem_putO {o : Option Int} {l : List Int} {x : Int} : x ∈ putO o l ↔ o = some x ∨ x ∈ l := by
  cases o with
  | none => simp [putO]
  | some y => rw [putO, mem_putI]; simp [eq_comm]
theorem mem_befL {t p n x : Int} (hg : goodB t p = true) : x ∈ befL t p n ↔ numB x = true ∧ nx t p x = n := by
  rw [befL, mem_putO, mem_dblL, oddBf_iff hg]
  unfold nx
  constructor
  · rintro (⟨h1, h2, h3⟩ | ⟨h1, h2⟩)
    · exact ⟨h1, by rw [if_neg h2]; exact h3⟩
    · exact ⟨h1, by rw [if_pos (by omega)]; omega⟩
  · rintro ⟨h1, h2⟩
    split at h2
    · exact .inr ⟨h1, by omega⟩
    · rename_i hx
      exact .inl ⟨h1, hx, h2⟩
theorem mem_befS {t p n x : Int} (hg : goodB t p = true) : x ∈ befS t p n ↔ numB x = true ∧ sx t p x = n := by
  rw [befS, mem_putO, mem_dblL, oddBf_iff hg]
  obtain ⟨_, _, g3, _, _, g6⟩ := goodB_iff.1 hg
  unfold sx
  constructor
  · rintro (⟨h1, h2, h3⟩ | ⟨h1, h2⟩)
    · exact ⟨h1, by rw [if_neg h2]; omega⟩
    · exact ⟨h1, by rw [if_pos (by omega)]; omega⟩
  · rintro ⟨h1, h2⟩
    split at h2
    · exact .inr ⟨h1, by omega⟩
    · rename_i hx
      have : (t * x) % 2 = 1 := by rw [Int.mul_emod, g3]; omega
      exact .inl ⟨h1, hx, by omega⟩
def stB (short : Bool) (t p n : Int) : Int := if short = true then sx t p n else nx t p n
theorem mem_befB {short : Bool} {t p n x : Int} (hg : goodB t p = true) : x ∈ befB short t p n ↔ numB x = true ∧ stB short t p x = n := by
  cases short
  · exact mem_befL hg
  · exact mem_befS hg
theorem putO_sorted {o : Option Int} {l : List Int} (hl : l.Pairwise (· < ·)) (ho : ∀ x, o = some x → x ∉ l) : (putO o l).Pairwise (· < ·) := by
  cases o with
  | none => exact hl
  | some x => exact putI_sorted hl (ho x rfl)
theorem dbl_sorted (n : Int) : (dblL n).Pairwise (· < ·) := by unfold dblL; split <;> simp
theorem dbl_odd {n x : Int} (h : x % 2 ≠ 0) : x ∉ dblL n := fun hm => by have := (mem_dblL.1 hm).2; omega
theorem bef_sorted (short : Bool) {t p n : Int} (hg : goodB t p = true) : (befB short t p n).Pairwise (· < ·) := by
  cases short
  · exact putO_sorted (dbl_sorted n) fun x h => dbl_odd ((oddBf_iff hg).1 h).2.1
  · exact putO_sorted (dbl_sorted n) fun x h => dbl_odd ((oddBf_iff hg).1 h).2.1
theorem putO_len (o : Option Int) (l : List Int) : (putO o l).length ≤ l.length + 1 := by
  cases o with
  | none => exact Nat.le_succ _
  | some x => rw [putO, putI_length]; exact Nat.le_refl _
theorem dbl_len (n : Int) : (dblL n).length ≤ 1 := by unfold dblL; split <;> simp
theorem bef_len (short : Bool) (t p n : Int) : (befB short t p n).length ≤ 2 := by
  have h1 := dbl_len n
  cases short
  · exact Nat.le_trans (putO_len _ _) (by omega)
  · exact Nat.le_trans (putO_len _ _) (by omega)

/-- A sorted list. -/
def srtI (xs : List Int) : List Int := xs.mergeSort leI
theorem srt_eq {xs ys : List Int} (hs : ys.Pairwise (· ≤ ·)) (hp : xs.Perm ys) : srtI xs = ys :=
  (mergeSort_of_perm_i hp).trans (List.mergeSort_of_pairwise (hs.imp (fun h => by simp only [leI, decide_eq_true_eq]; omega)))
theorem srt_perm (xs : List Int) : (srtI xs).Perm xs := List.mergeSort_perm _ _
theorem srt_sorted (xs : List Int) : (srtI xs).Pairwise (· ≤ ·) := by
  have tr : ∀ a b c : Int, leI a b = true → leI b c = true → leI a c = true := fun a b c h1 h2 => by simp only [leI, decide_eq_true_eq] at *; exact Int.le_trans h1 h2
  have to : ∀ a b : Int, (leI a b || leI b a) = true := fun a b => by simp only [leI, Bool.or_eq_true, decide_eq_true_eq]; exact Int.le_total a b
  exact (List.pairwise_mergeSort tr to xs).imp (fun h => by simpa [leI] using h)
theorem srt_length (xs : List Int) : (srtI xs).length = xs.length := (srt_perm xs).length_eq
theorem mem_srt {xs : List Int} {x : Int} : x ∈ srtI xs ↔ x ∈ xs := (srt_perm xs).mem_iff
theorem srt_short {xs : List Int} (h : xs.length < 2) : srtI xs = xs := by
  refine srt_eq ?_ (List.Perm.refl _)
  match xs, h with
  | [], _ => exact List.Pairwise.nil
  | [x], _ => simp
/-- Two sorted lists put together. -/
def mrg : List Int → List Int → List Int
  | [], b => b
  | x :: a, [] => x :: a
  | x :: a, y :: b => if x < y then x :: mrg a (y :: b) else y :: mrg (x :: a) b
termination_by a b => a.length + b.length
theorem mrg_nil (b : List Int) : mrg [] b = b := by rw [mrg]
theorem mrg_nil' (a : List Int) : mrg a [] = a := by cases a <;> rw [mrg]
theorem mrg_lt {x y : Int} (a b : List Int) (h : x < y) : mrg (x :: a) (y :: b) = x :: mrg a (y :: b) := by rw [mrg, if_pos h]
theorem mrg_ge {x y : Int} (a b : List Int) (h : ¬ x < y) : mrg (x :: a) (y :: b) = y :: mrg (x :: a) b := by rw [mrg, if_neg h]
theorem mrg_perm : ∀ (k : Nat) (a b : List Int), a.length + b.length ≤ k → (mrg a b).Perm (a ++ b)
  | 0, a, b, h => by
    obtain rfl : a = [] := List.eq_nil_of_length_eq_zero (by omega)
    rw [mrg_nil]; exact List.Perm.refl _
  | k + 1, [], b, h => by rw [mrg_nil]; exact List.Perm.refl _
  | k + 1, x :: a, [], h => by rw [mrg_nil', List.append_nil]
  | k + 1, x :: a, y :: b, h => by
    by_cases hxy : x < y
    · rw [mrg_lt a b hxy]
      exact (mrg_perm k a (y :: b) (by simp at h ⊢; omega)).cons x
    · rw [mrg_ge a b hxy]
      exact ((mrg_perm k (x :: a) b (by simp at h ⊢; omega)).cons y).trans (List.perm_middle (a := y) (l₁ := x :: a) (l₂ := b)).symm
theorem mrg_sorted : ∀ (k : Nat) (a b : List Int), a.length + b.length ≤ k → a.Pairwise (· ≤ ·) → b.Pairwise (· ≤ ·) → (mrg a b).Pairwise (· ≤ ·)
  | 0, a, b, h, _, hb => by
    obtain rfl : a = [] := List.eq_nil_of_length_eq_zero (by omega)
    rw [mrg_nil]; exact hb
  | k + 1, [], b, h, _, hb => by rw [mrg_nil]; exact hb
  | k + 1, x :: a, [], h, ha, _ => by rw [mrg_nil']; exact ha
  | k + 1, x :: a, y :: b, h, ha, hb => by
    have ha2 := List.pairwise_cons.1 ha
    have hb2 := List.pairwise_cons.1 hb
    by_cases hxy : x < y
    · rw [mrg_lt a b hxy, List.pairwise_cons]
      refine ⟨fun z hz => ?_, mrg_sorted k a (y :: b) (by simp at h ⊢; omega) ha2.2 hb⟩
      rcases List.mem_append.1 ((mrg_perm _ a (y :: b) (Nat.le_refl _)).mem_iff.1 hz) with hz | hz
      · exact ha2.1 z hz
      · rcases List.mem_cons.1 hz with rfl | hz
        · omega
        · have := hb2.1 z hz; omega
    · rw [mrg_ge a b hxy, List.pairwise_cons]
      refine ⟨fun z hz => ?_, mrg_sorted k (x :: a) b (by simp at h ⊢; omega) ha hb2.2⟩
      rcases List.mem_append.1 ((mrg_perm _ (x :: a) b (Nat.le_refl _)).mem_iff.1 hz) with hz | hz
      · rcases List.mem_cons.1 hz with rfl | hz
        · omega
        · have := ha2.1 z hz; omega
      · exact hb2.1 z hz
/-- Two sorted halves put together. -/
theorem srt_halves (xs : List Int) (h : Nat) : mrg (srtI (xs.take h)) (srtI (xs.drop h)) = srtI xs := by
  refine (srt_eq (mrg_sorted _ _ _ (Nat.le_refl _) (srt_sorted _) (srt_sorted _)) ?_).symm
  refine List.Perm.symm ((mrg_perm _ _ _ (Nat.le_refl _)).trans ?_)
  exact ((srt_perm _).append (srt_perm _)).trans (by rw [List.take_append_drop])

/-- A level of a root, if no level up to it has too many numbers. -/
def levL (short : Bool) (t p r : Int) : Nat → Option (List Int)
  | 0 => some [r]
  | k + 1 => (levL short t p r k).bind fun l => if (l.flatMap (befB short t p)).length ≤ 2000 then some (srtI (l.flatMap (befB short t p))) else none
theorem levL_succ {short : Bool} {t p r : Int} {k : Nat} {l : List Int} (h : levL short t p r k = some l) : levL short t p r (k + 1) = if (l.flatMap (befB short t p)).length ≤ 2000 then some (srtI (l.flatMap (befB short t p))) else none := by
  rw [levL, h]; rfl
theorem levL_none {short : Bool} {t p r : Int} {k : Nat} (h : levL short t p r k = none) : levL short t p r (k + 1) = none := by rw [levL, h]; rfl
theorem levL_less {short : Bool} {t p r : Int} {j k : Nat} (hj : j ≤ k) (h : levL short t p r j = none) : levL short t p r k = none := by
  induction k with
  | zero => obtain rfl : j = 0 := by omega
            exact h
  | succ k ih =>
    by_cases e : j = k + 1
    · subst e; exact h
    · exact levL_none (ih (by omega))
theorem levL_mem {short : Bool} {t p r : Int} (hg : goodB t p = true) (hr : numB r = true) : ∀ (k : Nat) (l : List Int), levL short t p r k = some l → ∀ x, x ∈ l ↔ itr (stB short t p) k x = r ∧ allB (stB short t p) x (k + 1) = true
  | 0, l, h, x => by
    cases h
    simp only [List.mem_singleton, itr, allB, Bool.true_and]
    exact ⟨fun e => ⟨e, by rw [e]; exact hr⟩, fun h => h.1⟩
  | k + 1, l, h, x => by
    cases hl : levL short t p r k with
    | none => rw [levL_none hl] at h; cases h
    | some l0 =>
      rw [levL_succ hl] at h
      split at h
      · cases h
        rw [mem_srt, List.mem_flatMap, allB_shift, Bool.and_eq_true]
        have ih := levL_mem hg hr k l0 hl
        constructor
        · rintro ⟨y, hy, hx⟩
          obtain ⟨h1, h2⟩ := (mem_befB hg).1 hx
          subst h2
          exact ⟨((ih _).1 hy).1, h1, ((ih _).1 hy).2⟩
        · rintro ⟨h1, h2, h3⟩
          exact ⟨_, (ih _).2 ⟨h1, h3⟩, (mem_befB hg).2 ⟨h2, rfl⟩⟩
      · cases h
theorem levL_len {short : Bool} {t p r : Int} {k : Nat} {l : List Int} (h : levL short t p r k = some l) : l.length ≤ 2000 := by
  cases k with
  | zero => cases h; simp
  | succ k =>
    cases hl : levL short t p r k with
    | none => rw [levL_none hl] at h; cases h
    | some l0 =>
      rw [levL_succ hl] at h
      split at h
      · rename_i hle; cases h; rw [srt_length]; exact hle
      · cases h
end Go.Proofs.Ytjcpdlamgjpmmaa

namespace Go.Proofs.Ytjcpdlamgjpmmaa

/-- Does an odd number come to n? -/
def comesP (t p n : Int) : Bool := decide (n % 2 = 0 ∧ (n - p).tmod t = 0)
/-- The odd number before n as the program tells it; a number too great where there is none. -/
def oddP (t p n : Int) : Int := if comesP t p n = true then (n - p).tdiv t else 1000000000001
theorem oddBf_oddP {t p n : Int} (hg : goodB t p = true) : oddBf t p n = if numB (oddP t p n) = true then some (oddP t p n) else none := by
  obtain ⟨g1, _, g3, _, _, g6⟩ := goodB_iff.1 hg
  by_cases hc : comesP t p n = true
  · have e : oddP t p n = (n - p).tdiv t := by rw [oddP, if_pos hc]
    obtain ⟨h1, h2⟩ : n % 2 = 0 ∧ (n - p).tmod t = 0 := by simpa [comesP] using hc
    obtain ⟨q, hq⟩ : ∃ q, (n - p).tdiv t = q := ⟨_, rfl⟩
    have h3 : t * q + p = n := by
      have := Int.mul_tdiv_add_tmod (n - p) t
      rw [h2, hq] at this
      omega
    have h4 : q % 2 ≠ 0 := by
      intro h
      have : (t * q) % 2 = 0 := by rw [Int.mul_emod, h]; simp
      omega
    rw [e, hq]
    by_cases hn : numB q = true
    · rw [if_pos hn, oddBf_iff hg]
      exact ⟨hn, h4, h3⟩
    · rw [if_neg hn]
      cases ho : oddBf t p n with
      | none => rfl
      | some x =>
        obtain ⟨a1, _, a3⟩ := (oddBf_iff hg).1 ho
        have : t * x = t * q := by omega
        have hx : x = q := Int.eq_of_mul_eq_mul_left (by omega) this
        rw [hx] at a1
        exact absurd a1 hn
  · have e : oddP t p n = 1000000000001 := by rw [oddP, if_neg hc]
    rw [e, if_neg (by decide)]
    cases ho : oddBf t p n with
    | none => rfl
    | some x =>
      obtain ⟨_, a2, a3⟩ := (oddBf_iff hg).1 ho
      exfalso
      apply hc
      have h1 := odd_even g3 g6 a2
      rw [a3] at h1
      have h2 : n - p = t * x := by omega
      rw [comesP, decide_eq_true_eq, h2]
      exact ⟨h1, Int.mul_tmod_right ..⟩
theorem oddP_bound {t p n : Int} (hg : goodB t p = true) (hn : -100000000000000 ≤ n ∧ n ≤ 100000000000000) : -100000000000009 ≤ oddP t p n ∧ oddP t p n ≤ 100000000000009 := by
  obtain ⟨g1, g2, g3, g4, g5, g6⟩ := goodB_iff.1 hg
  unfold oddP
  split
  · have h1 := Int.mul_tdiv_add_tmod (n - p) t
    rename_i hc
    have h2 : (n - p).tmod t = 0 := by simp [comesP] at hc; exact hc.2
    generalize (n - p).tdiv t = q at *
    rw [h2] at h1
    have ht : t = 1 ∨ t = 2 ∨ t = 3 ∨ t = 4 ∨ t = 5 ∨ t = 6 ∨ t = 7 ∨ t = 8 ∨ t = 9 := by omega
    rcases ht with rfl | rfl | rfl | rfl | rfl | rfl | rfl | rfl | rfl <;> omega
  · omega
/-- What is asked for the odd number: the number itself, or twice it for short steps. -/
def arB (short : Bool) (n : Int) : Int := if short = true then 2 * n else n
theorem mem_bef {short : Bool} {t p n x : Int} (hg : goodB t p = true) : x ∈ befB short t p n ↔ numB x = true ∧ (x = 2 * n ∨ x = oddP t p (arB short n)) := by
  have key : ∀ m : Int, x ∈ putO (oddBf t p m) (dblL n) ↔ numB x = true ∧ (x = 2 * n ∨ x = oddP t p m) := by
    intro m
    rw [mem_putO, mem_dblL, oddBf_oddP hg]
    constructor
    · rintro (h | ⟨h1, h2⟩)
      · split at h
        · rename_i hn
          cases h
          exact ⟨hn, .inr rfl⟩
        · cases h
      · exact ⟨h1, .inl h2⟩
    · rintro ⟨h1, h2 | rfl⟩
      · exact .inr ⟨h1, h2⟩
      · exact .inl (by rw [if_pos h1])
  cases short
  · exact key n
  · exact key (2 * n)
theorem bef_num {short : Bool} {t p n x : Int} (hg : goodB t p = true) (h : x ∈ befB short t p n) : numB x = true := ((mem_bef hg).1 h).1
theorem nodup_lt {xs : List Int} (h : xs.Pairwise (· < ·)) : xs.Nodup := h.imp (fun h e => by omega)
theorem fm_nodup {short : Bool} {t p : Int} {xs : List Int} (hg : goodB t p = true) (h : xs.Nodup) : (xs.flatMap (befB short t p)).Nodup := by
  rw [List.nodup_iff_pairwise_ne, List.pairwise_flatMap]
  refine ⟨fun a _ => List.nodup_iff_pairwise_ne.1 (nodup_lt (bef_sorted short hg)), ?_⟩
  refine (List.nodup_iff_pairwise_ne.1 h).imp fun hab x hx y hy e => ?_
  subst e
  exact hab (((mem_befB hg).1 hx).2.symm.trans ((mem_befB hg).1 hy).2)
theorem srt_lt {xs : List Int} (h : xs.Nodup) : (srtI xs).Pairwise (· < ·) := by
  have h1 := srt_sorted xs
  have h2 : (srtI xs).Nodup := (srt_perm xs).nodup_iff.2 h
  have := h1.and (List.nodup_iff_pairwise_ne.1 h2)
  exact this.imp (fun ⟨a, b⟩ => by omega)
theorem levL_lt {short : Bool} {t p r : Int} (hg : goodB t p = true) : ∀ {k : Nat} {l : List Int}, levL short t p r k = some l → l.Pairwise (· < ·)
  | 0, l, h => by cases h; simp
  | k + 1, l, h => by
    cases hl : levL short t p r k with
    | none => rw [levL_none hl] at h; cases h
    | some l0 =>
      rw [levL_succ hl] at h
      split at h
      · cases h
        exact srt_lt (fm_nodup hg (nodup_lt (levL_lt hg hl)))
      · cases h
theorem levL_num {short : Bool} {t p r : Int} (hg : goodB t p = true) (hr : numB r = true) {k : Nat} {l : List Int} (h : levL short t p r k = some l) {x : Int} (hx : x ∈ l) : numB x = true := by
  have := ((levL_mem hg hr k l h x).1 hx).2
  exact allB_at (j := 0) (by omega) this
theorem bef_srt {short : Bool} {t p n : Int} (hg : goodB t p = true) : srtI (befB short t p n) = befB short t p n :=
  srt_eq ((bef_sorted short hg).imp (fun h => by omega)) (List.Perm.refl _)
/-- The level 1. -/
theorem levL_one {short : Bool} {t p r : Int} (hg : goodB t p = true) : levL short t p r 1 = some (befB short t p r) := by
  have h0 : levL short t p r 0 = some [r] := rfl
  have h1 := bef_len short t p r
  rw [levL_succ h0]
  simp only [List.flatMap_cons, List.flatMap_nil, List.append_nil]
  rw [if_pos (by omega), bef_srt hg]

/-- Twice. -/
def dblF (n : Int) : Int := 2 * n
/-- Is a number barren: as the program finds it, and as the model does. -/
def barP (t p n : Int) : Bool := (List.range 6).all fun j => !comesP t p (itr dblF (j + 1) n)
def turnF (t r : Int) : Int := (2 * r) % (2 * t)
def hitS (t p r : Int) : Bool := (r - p - t) % (2 * t) == 0
def barS (t p n : Int) : Bool := (List.range (2 * t.toNat + 1)).all fun k => !hitS t p (itr (turnF t) k (n % (2 * t)))
theorem itr_dbl (j : Nat) (n : Int) : itr dblF j n = 2 ^ j * n := by
  induction j with
  | zero => simp [itr]
  | succ j ih => rw [itr_succ, ih, dblF, Int.pow_succ]; rw [Int.mul_comm (2 ^ j) 2, Int.mul_assoc]
theorem itr_dbl_add (j : Nat) (a b : Int) : itr dblF j (a + b) = itr dblF j a + itr dblF j b := by rw [itr_dbl, itr_dbl, itr_dbl, Int.mul_add]
theorem comesP_mod {t p n m : Int} (h : (2 * t) ∣ n - m) : comesP t p n = comesP t p m := by
  obtain ⟨c, hc⟩ := h
  obtain rfl : n = m + 2 * t * c := by omega
  have e : m + 2 * t * c - p = (m - p) + t * (2 * c) := by rw [Int.mul_comm 2 t, Int.mul_assoc]; omega
  have h1 : (m + 2 * t * c) % 2 = m % 2 := by rw [Int.mul_assoc]; omega
  have h2 : (m + 2 * t * c - p).tmod t = 0 ↔ (m - p).tmod t = 0 := by
    rw [← Int.dvd_iff_tmod_eq_zero, ← Int.dvd_iff_tmod_eq_zero, e]
    exact ⟨fun h => by simpa using Int.dvd_sub h (Int.dvd_mul_right t (2 * c)), fun h => Int.dvd_add h (Int.dvd_mul_right t (2 * c))⟩
  rw [comesP, comesP, h1, decide_eq_decide, h2]
theorem barP_mod (t p n : Int) : barP t p n = barP t p (n % (2 * t)) := by
  unfold barP
  congr 1
  funext j
  rw [comesP_mod]
  rw [itr_dbl, itr_dbl, ← Int.mul_sub]
  refine Int.dvd_trans ?_ (Int.dvd_mul_left _ _)
  refine ⟨n / (2 * t), ?_⟩
  have := Int.emod_add_mul_ediv n (2 * t)
  omega
theorem bar_dec : (List.range 5).all (fun i => (List.range 10).all fun q => (List.range (2 * (2 * i + 1))).all fun (r : Nat) => barP (2 * (i : Int) + 1) (2 * (q : Int) - 9) r == barS (2 * (i : Int) + 1) (2 * (q : Int) - 9) r) = true := by decide +kernel
theorem bar_eq {t p : Int} (n : Int) (hg : goodB t p = true) : barP t p n = barS t p n := by
  obtain ⟨g1, g2, g3, g4, g5, g6⟩ := goodB_iff.1 hg
  have hS : barS t p n = barS t p (n % (2 * t)) := by unfold barS; rw [Int.emod_emod_of_dvd _ (Int.dvd_refl _)]
  rw [barP_mod, hS]
  have hr0 : 0 ≤ n % (2 * t) := Int.emod_nonneg _ (by omega)
  have hr1 : n % (2 * t) < 2 * t := Int.emod_lt_of_pos _ (by omega)
  generalize n % (2 * t) = r at *
  obtain ⟨i, rfl⟩ : ∃ i : Nat, t = 2 * (i : Int) + 1 := ⟨(t / 2).toNat, by omega⟩
  obtain ⟨q, rfl⟩ : ∃ q : Nat, p = 2 * (q : Int) - 9 := ⟨((p + 9) / 2).toNat, by omega⟩
  obtain ⟨s, rfl⟩ : ∃ s : Nat, r = s := ⟨r.toNat, by omega⟩
  have h := bar_dec
  rw [List.all_eq_true] at h
  have h2 := h i (List.mem_range.2 (by omega))
  rw [List.all_eq_true] at h2
  have h3 := h2 q (List.mem_range.2 (by omega))
  rw [List.all_eq_true] at h3
  have h4 := h3 s (List.mem_range.2 (by omega))
  exact eq_of_beq h4
theorem barP_yes {t p n : Int} (h : ∀ m, m < 6 → comesP t p (itr dblF (m + 1) n) = false) : barP t p n = true := by
  rw [barP, List.all_eq_true]
  intro m hm
  rw [h m (List.mem_range.1 hm)]; rfl
theorem barP_no {t p n : Int} {m : Nat} (hm : m < 6) (h : comesP t p (itr dblF (m + 1) n) = true) : barP t p n = false := by
  rw [Bool.eq_false_iff]
  intro hh
  rw [barP, List.all_eq_true] at hh
  have := hh m (List.mem_range.2 hm)
  rw [h] at this
  cases this
theorem barS_yes {t p n : Int} (h : ∀ m, m < 2 * t.toNat + 1 → hitS t p (itr (turnF t) m (n % (2 * t))) = false) : barS t p n = true := by
  rw [barS, List.all_eq_true]
  intro m hm
  rw [h m (List.mem_range.1 hm)]; rfl
theorem barS_no {t p n : Int} {m : Nat} (hm : m < 2 * t.toNat + 1) (h : hitS t p (itr (turnF t) m (n % (2 * t))) = true) : barS t p n = false := by
  rw [Bool.eq_false_iff]
  intro hh
  rw [barS, List.all_eq_true] at hh
  have := hh m (List.mem_range.2 hm)
  rw [h] at this
  cases this
end Go.Proofs.Ytjcpdlamgjpmmaa
