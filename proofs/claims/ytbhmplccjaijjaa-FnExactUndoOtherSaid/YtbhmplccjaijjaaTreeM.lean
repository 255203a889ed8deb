/-
  TREES: numbers before numbers, levels, sorted lists. No program.
-/
import Derived.Test.YtbhmplccjaijjaaPutM
namespace Go.Proofs.Ytbhmplccjaijjaa

/-- The odd number before a number. -/
def oddBf (t p n : Int) : Option Int := if (n - p).tdiv t * t + p = n ∧ (n - p).tdiv t % 2 ≠ 0 ∧ numB ((n - p).tdiv t) = true then some ((n - p).tdiv t) else none
def dblL (n : Int) : List Int := if numB (2 * n) = true then [2 * n] else []
def putO (o : Option Int) (l : List Int) : List Int := match o with
  | some x => putI x l
  | none => l
/-- The numbers before a number; by short steps. -/
def befL (t p n : Int) : List Int := putO (oddBf t p n) (dblL n)
def befS (t p n : Int) : List Int := putO (oddBf t p (2 * n)) (dblL n)
def befB (short : Bool) (t p n : Int) : List Int := if short = true then befS t p n else befL t p n

theorem oddBf_iff {t p n x : Int} (hg : goodB t p = true) : oddBf t p n = some x ↔ numB x = true ∧ x % 2 ≠ 0 ∧ t * x + p = n := by
  obtain ⟨g1, _⟩ := goodB_iff.1 hg
  have key : ∀ {y : Int}, t * y + p = n → (n - p).tdiv t = y := by
    intro y h
    have : n - p = t * y := by omega
    rw [this, Int.mul_tdiv_cancel_left _ (by omega)]
  unfold oddBf
  constructor
  · intro h
    split at h
    · rename_i hc
      cases h
      exact ⟨hc.2.2, hc.2.1, by rw [Int.mul_comm]; exact hc.1⟩
    · cases h
  · rintro ⟨h1, h2, h3⟩
    have e := key h3
    rw [e, if_pos ⟨by rw [Int.mul_comm]; exact h3, h2, h1⟩]
theorem mem_dblL {n x : Int} : x ∈ dblL n ↔ numB x = true ∧ x = 2 * n := by
  unfold dblL
  split
  · rename_i h
    simp only [List.mem_singleton]
    exact ⟨fun e => ⟨by rw [e]; exact h, e⟩, fun h => h.2⟩
  · rename_i h
    simp only [List.not_mem_nil, false_iff]
    rintro ⟨h1, h2⟩
    rw [h2] at h1
    exact h h1
theorem mem_putO {o : Option Int} {l : List Int} {x : Int} : x ∈ putO o l ↔ o = some x ∨ x ∈ l := by
  cases o with
  | none => simp [putO]
  | some y => rw [putO, mem_putI]; simp [eq_comm]
theorem mem_befL {t p n x : Int} (hg : goodB t p = true) : x ∈ befL t p n ↔ numB x = true ∧ nx t p x = n := by
  rw [befL, mem_putO, mem_dblL, oddBf_iff hg]
  unfold nx
  constructor
  · rintro (⟨h1, h2, h3⟩ | ⟨h1, h2⟩)
    · exact ⟨h1, by rw [if_neg h2]; exact h3⟩
    · exact ⟨h1, by rw [if_pos (by omega)]; omega⟩
  · rintro ⟨h1, h2⟩
    split at h2
    · exact .inr ⟨h1, by omega⟩
    · rename_i hx
      exact .inl ⟨h1, hx, h2⟩
theorem mem_befS {t p n x : Int} (hg : goodB t p = true) : x ∈ befS t p n ↔ numB x = true ∧ sx t p x = n := by
  rw [befS, mem_putO, mem_dblL, oddBf_iff hg]
  obtain ⟨_, _, g3, _, _, g6⟩ := goodB_iff.1 hg
  unfold sx
  constructor
  · rintro (⟨h1, h2, h3⟩ | ⟨h1, h2⟩)
    · exact ⟨h1, by rw [if_neg h2]; omega⟩
    · exact ⟨h1, by rw [if_pos (by omega)]; omega⟩
  · rintro ⟨h1, h2⟩
    split at h2
    · exact .inr ⟨h1, by omega⟩
    · rename_i hx
      have : (t * x) % 2 = 1 := by rw [Int.mul_emod, g3]; omega
      exact .inl ⟨h1, hx, by omega⟩
def stB (short : Bool) (t p n : Int) : Int := if short = true then sx t p n else nx t p n
theorem mem_befB {short : Bool} {t p n x : Int} (hg : goodB t p = true) : x ∈ befB short t p n ↔ numB x = true ∧ stB short t p x = n := by
  cases short
  · exact mem_befL hg
  · exact mem_befS hg
theorem putO_sorted {o : Option Int} {l : List Int} (hl : l.Pairwise (· < ·)) (ho : ∀ x, o = some x → x ∉ l) : (putO o l).Pairwise (· < ·) := by
  cases o with
  | none => exact hl
  | some x => exact putI_sorted hl (ho x rfl)
theorem dbl_sorted (n : Int) : (dblL n).Pairwise (· < ·) := by unfold dblL; split <;> simp
theorem dbl_odd {n x : Int} (h : x % 2 ≠ 0) : x ∉ dblL n := fun hm => by have := (mem_dblL.1 hm).2; omega
theorem bef_sorted (short : Bool) {t p n : Int} (hg : goodB t p = true) : (befB short t p n).Pairwise (· < ·) := by
  cases short
  · exact putO_sorted (dbl_sorted n) fun x h => dbl_odd ((oddBf_iff hg).1 h).2.1
  · exact putO_sorted (dbl_sorted n) fun x h => dbl_odd ((oddBf_iff hg).1 h).2.1
theorem putO_len (o : Option Int) (l : List Int) : (putO o l).length ≤ l.length + 1 := by
  cases o with
  | none => exact Nat.le_succ _
  | some x => rw [putO, putI_length]; exact Nat.le_refl _
theorem dbl_len (n : Int) : (dblL n).length ≤ 1 := by unfold dblL; split <;> simp
theorem bef_len (short : Bool) (t p n : Int) : (befB short t p n).length ≤ 2 := by
  have h1 := dbl_len n
  cases short
  · exact Nat.le_trans (putO_len _ _) (by omega)
  · exact Nat.le_trans (putO_len _ _) (by omega)

/-- A sorted list. -/
def srtI (xs : List Int) : List Int := xs.mergeSort leI
theorem srt_eq {xs ys : List Int} (hs : ys.Pairwise (· ≤ ·)) (hp : xs.Perm ys) : srtI xs = ys :=
  (mergeSort_of_perm_i hp).trans (List.mergeSort_of_pairwise (hs.imp (fun h => by simp only [leI, decide_eq_true_eq]; omega)))
theorem srt_perm (xs : List Int) : (srtI xs).Perm xs := List.mergeSort_perm _ _
theorem srt_sorted (xs : List Int) : (srtI xs).Pairwise (· ≤ ·) := by
  have tr : ∀ a b c : Int, leI a b = true → leI b c = true → leI a c = true := fun a b c h1 h2 => by simp only [leI, decide_eq_true_eq] at *; exact Int.le_trans h1 h2
  have to : ∀ a b : Int, (leI a b || leI b a) = true := fun a b => by simp only [leI, Bool.or_eq_true, decide_eq_true_eq]; exact Int.le_total a b
  exact (List.pairwise_mergeSort tr to xs).imp (fun h => by simpa [leI] using h)
theorem srt_length (xs : List Int) : (srtI xs).length = xs.length := (srt_perm xs).length_eq
theorem mem_srt {xs : List Int} {x : Int} : x ∈ srtI xs ↔ x ∈ xs := (srt_perm xs).mem_iff
theorem srt_short {xs : List Int} (h : xs.length < 2) : srtI xs = xs := by
  refine srt_eq ?_ (List.Perm.refl _)
  match xs, h with
  | [], _ => exact List.Pairwise.nil
  | [x], _ => simp
/-- Two sorted lists put together. -/
def mrg : List Int → List Int → List Int
  | [], b => b
  | x :: a, [] => x :: a
  | x :: a, y :: b => if x < y then x :: mrg a (y :: b) else y :: mrg (x :: a) b
termination_by a b => a.length + b.length
theorem mrg_nil (b : List Int) : mrg [] b = b := by rw [mrg]
theorem mrg_nil' (a : List Int) : mrg a [] = a := by cases a <;> rw [mrg]
theorem mrg_lt {x y : Int} (a b : List Int) (h : x < y) : mrg (x :: a) (y :: b) = x :: mrg a (y :: b) := by rw [mrg, if_pos h]
theorem mrg_ge {x y : Int} (a b : List Int) (h : ¬ x < y) : mrg (x :: a) (y :: b) = y :: mrg (x :: a) b := by rw [mrg, if_neg h]
theorem mrg_perm : ∀ (k : Nat) (a b : List Int), a.length + b.length ≤ k → (mrg a b).Perm (a ++ b)
  | 0, a, b, h => by
    obtain rfl : a = [] := List.eq_nil_of_length_eq_zero (by omega)
    rw [mrg_nil]; exact List.Perm.refl _
  | k + 1, [], b, h => by rw [mrg_nil]; exact List.Perm.refl _
  | k + 1, x :: a, [], h => by rw [mrg_nil', List.append_nil]
  | k + 1, x :: a, y :: b, h => by
    by_cases hxy : x < y
    · rw [mrg_lt a b hxy]
      exact (mrg_perm k a (y :: b) (by simp at h ⊢; omega)).cons x
    · rw [mrg_ge a b hxy]
      exact ((mrg_perm k (x :: a) b (by simp at h ⊢; omega)).cons y).trans (List.perm_middle (a := y) (l₁ := x :: a) (l₂ := b)).symm
theorem mrg_sorted : ∀ (k : Nat) (a b : List Int), a.length + b.length ≤ k → a.Pairwise (· ≤ ·) → b.Pairwise (· ≤ ·) → (mrg a b).Pairwise (· ≤ ·)
  | 0, a, b, h, _, hb => by
    obtain rfl : a = [] := List.eq_nil_of_length_eq_zero (by omega)
    rw [mrg_nil]; exact hb
  | k + 1, [], b, h, _, hb => by rw [mrg_nil]; exact hb
  | k + 1, x :: a, [], h, ha, _ => by rw [mrg_nil']; exact ha
  | k + 1, x :: a, y :: b, h, ha, hb => by
    have ha2 := List.pairwise_cons.1 ha
    have hb2 := List.pairwise_cons.1 hb
    by_cases hxy : x < y
    · rw [mrg_lt a b hxy, List.pairwise_cons]
      refine ⟨fun z hz => ?_, mrg_sorted k a (y :: b) (by simp at h ⊢; omega) ha2.2 hb⟩
      rcases List.mem_append.1 ((mrg_perm _ a (y :: b) (Nat.le_refl _)).mem_iff.1 hz) with hz | hz
      · exact ha2.1 z hz
      · rcases List.mem_cons.1 hz with rfl | hz
        · omega
        · have := hb2.1 z hz; omega
    · rw [mrg_ge a b hxy, List.pairwise_cons]
      refine ⟨fun z hz => ?_, mrg_sorted k (x :: a) b (by simp at h ⊢; omega) ha hb2.2⟩
      rcases List.mem_append.1 ((mrg_perm _ (x :: a) b (Nat.le_refl _)).mem_iff.1 hz) with hz | hz
      · rcases List.mem_cons.1 hz with rfl | hz
        · omega
        · have := ha2.1 z hz; omega
      · exact hb2.1 z hz
/-- Two sorted halves put together. -/
theorem srt_halves (xs : List Int) (h : Nat) : mrg (srtI (xs.take h)) (srtI (xs.drop h)) = srtI xs := by
  refine (srt_eq (mrg_sorted _ _ _ (Nat.le_refl _) (srt_sorted _) (srt_sorted _)) ?_).symm
  refine List.Perm.symm ((mrg_perm _ _ _ (Nat.le_refl _)).trans ?_)
  exact ((srt_perm _).append (srt_perm _)).trans (by rw [List.take_append_drop])

/-- A level of a root, if no level up to it has too many numbers. -/
def levL (short : Bool) (t p r : Int) : Nat → Option (List Int)
  | 0 => some [r]
  | k + 1 => (levL short t p r k).bind fun l => if (l.flatMap (befB short t p)).length ≤ 2000 then some (srtI (l.flatMap (befB short t p))) else none
theorem levL_succ {short : Bool} {t p r : Int} {k : Nat} {l : List Int} (h : levL short t p r k = some l) : levL short t p r (k + 1) = if (l.flatMap (befB short t p)).length ≤ 2000 then some (srtI (l.flatMap (befB short t p))) else none := by
  rw [levL, h]; rfl
theorem levL_none {short : Bool} {t p r : Int} {k : Nat} (h : levL short t p r k = none) : levL short t p r (k + 1) = none := by rw [levL, h]; rfl
theorem levL_less {short : Bool} {t p r : Int} {j k : Nat} (hj : j ≤ k) (h : levL short t p r j = none) : levL short t p r k = none := by
  induction k with
  | zero => obtain rfl : j = 0 := by omega
            exact h
  | succ k ih =>
    by_cases e : j = k + 1
    · subst e; exact h
    · exact levL_none (ih (by omega))
theorem levL_mem {short : Bool} {t p r : Int} (hg : goodB t p = true) (hr : numB r = true) : ∀ (k : Nat) (l : List Int), levL short t p r k = some l → ∀ x, x ∈ l ↔ itr (stB short t p) k x = r ∧ allB (stB short t p) x (k + 1) = true
  | 0, l, h, x => by
    cases h
    simp only [List.mem_singleton, itr, allB, Bool.true_and]
    exact ⟨fun e => ⟨e, by rw [e]; exact hr⟩, fun h => h.1⟩
  | k + 1, l, h, x => by
    cases hl : levL short t p r k with
    | none => rw [levL_none hl] at h; cases h
    | some l0 =>
      rw [levL_succ hl] at h
      split at h
      · cases h
        rw [mem_srt, List.mem_flatMap, allB_shift, Bool.and_eq_true]
        have ih := levL_mem hg hr k l0 hl
        constructor
        · rintro ⟨y, hy, hx⟩
          obtain ⟨h1, h2⟩ := (mem_befB hg).1 hx
          subst h2
          exact ⟨((ih _).1 hy).1, h1, ((ih _).1 hy).2⟩
        · rintro ⟨h1, h2, h3⟩
          exact ⟨_, (ih _).2 ⟨h1, h3⟩, (mem_befB hg).2 ⟨h2, rfl⟩⟩
      · cases h
theorem levL_len {short : Bool} {t p r : Int} {k : Nat} {l : List Int} (h : levL short t p r k = some l) : l.length ≤ 2000 := by
  cases k with
  | zero => cases h; simp
  | succ k =>
    cases hl : levL short t p r k with
    | none => rw [levL_none hl] at h; cases h
    | some l0 =>
      rw [levL_succ hl] at h
      split at h
      · rename_i hle; cases h; rw [srt_length]; exact hle
      · cases h
end Go.Proofs.Ytbhmplccjaijjaa
