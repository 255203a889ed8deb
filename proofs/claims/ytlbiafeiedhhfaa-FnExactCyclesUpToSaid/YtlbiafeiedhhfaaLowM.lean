/-
  THE LEAST NUMBERS OF CYCLES: put into an increasing list where they belong; as keys of a map. No program.
-/
import Derived.Test.YtlbiafeiedhhfaaOrbN
import Derived.Test.YtlbiafeiedhhfaaSeen
namespace Go.Proofs.Ytlbiafeiedhhfaa
open Go.Maps

/-- How many at the list's beginning are less. -/
def posI (x : Int) : List Int → Nat
  | [] => 0
  | y :: ys => if y < x then posI x ys + 1 else 0
def putI (x : Int) (xs : List Int) : List Int := xs.take (posI x xs) ++ x :: xs.drop (posI x xs)
theorem posI_le (x : Int) (xs : List Int) : posI x xs ≤ xs.length := by
  induction xs with
  | nil => exact Nat.le_refl _
  | cons y ys ih => rw [posI]; split <;> simp <;> omega
theorem posI_before {x : Int} : ∀ {xs : List Int} {j : Nat}, j < posI x xs → xs.getD j 0 < x
  | [], j, h => by simp [posI] at h
  | y :: ys, j, h => by
    rw [posI] at h
    split at h
    · rename_i hy
      cases j with
      | zero => exact hy
      | succ j => exact posI_before (xs := ys) (by omega)
    · omega
theorem posI_at {x : Int} : ∀ {xs : List Int}, posI x xs < xs.length → ¬ xs.getD (posI x xs) 0 < x
  | [], h => by simp [posI] at h
  | y :: ys, h => by
    by_cases hy : y < x
    · have e : posI x (y :: ys) = posI x ys + 1 := by rw [posI, if_pos hy]
      rw [e] at h ⊢
      exact posI_at (xs := ys) (by simpa using h)
    · have e : posI x (y :: ys) = 0 := by rw [posI, if_neg hy]
      rw [e]
      exact hy
theorem putI_nil (x : Int) : putI x [] = [x] := rfl
theorem putI_lt {x y : Int} (ys : List Int) (h : y < x) : putI x (y :: ys) = y :: putI x ys := by simp [putI, posI, h]
theorem putI_ge {x y : Int} (ys : List Int) (h : ¬ y < x) : putI x (y :: ys) = x :: y :: ys := by simp [putI, posI, h]
theorem mem_putI {x z : Int} {xs : List Int} : z ∈ putI x xs ↔ z = x ∨ z ∈ xs := by
  have h : xs.take (posI x xs) ++ xs.drop (posI x xs) = xs := List.take_append_drop _ _
  have h2 : z ∈ xs ↔ z ∈ xs.take (posI x xs) ∨ z ∈ xs.drop (posI x xs) := by
    constructor
    · intro hz; rw [← h] at hz; simpa using List.mem_append.1 hz
    · intro hz; rw [← h]; exact List.mem_append.2 hz
  rw [h2, putI, List.mem_append, List.mem_cons]
  constructor
  · rintro (a | b | c)
    · exact .inr (.inl a)
    · exact .inl b
    · exact .inr (.inr c)
  · rintro (a | b | c)
    · exact .inr (.inl a)
    · exact .inl b
    · exact .inr (.inr c)
theorem putI_length (x : Int) (xs : List Int) : (putI x xs).length = xs.length + 1 := by
  have := posI_le x xs
  simp [putI]
  omega
theorem putI_ne (x : Int) (xs : List Int) : putI x xs ≠ [] := by
  intro e
  have := putI_length x xs
  rw [e] at this
  simp at this
theorem putI_sorted {x : Int} : ∀ {xs : List Int}, xs.Pairwise (· < ·) → x ∉ xs → (putI x xs).Pairwise (· < ·)
  | [], _, _ => by rw [putI_nil]; simp
  | y :: ys, h, hx => by
    rw [List.pairwise_cons] at h
    by_cases hy : y < x
    · rw [putI_lt ys hy, List.pairwise_cons]
      refine ⟨fun z hz => ?_, putI_sorted h.2 (fun e => hx (List.mem_cons_of_mem _ e))⟩
      rcases mem_putI.1 hz with rfl | hz
      · exact hy
      · exact h.1 z hz
    · rw [putI_ge ys hy, List.pairwise_cons]
      have hxy : x < y := by
        have : x ≠ y := fun e => hx (by rw [e]; exact List.mem_cons_self ..)
        omega
      refine ⟨fun z hz => ?_, List.pairwise_cons.2 h⟩
      rcases List.mem_cons.1 hz with rfl | hz
      · exact hxy
      · have := h.1 z hz; omega

/-- The least number of the cycle into which n comes. -/
def lowC (t p n : Int) : Int := (cyL t p n).headD 0
theorem low_num {t p n : Int} {K i : Nat} (h : cyA t p n = some (K, i)) : numB (lowC t p n) = true ∧ cyL t p n = lowC t p n :: (cyL t p n).tail := by
  obtain ⟨_, _, hF⟩ := cyA_some h
  have e : cyL t p n = pathL (nx t p) (itr (nx t p) (i + leastJ (nx t p) n K i) n) (K - i - 1) := by
    rw [cyL_some h, cycT, cycFrom_pathL hF.lt]
  have e2 : ∀ (f : Int → Int) (x : Int) (k : Nat), ∃ ys, pathL f x k = x :: ys := by
    intro f x k
    cases k with
    | zero => exact ⟨_, rfl⟩
    | succ k => first | exact ⟨_, rfl⟩ | (simp [pathL, List.range_succ_eq_map, itr])
  obtain ⟨ys, hy⟩ := e2 (nx t p) (itr (nx t p) (i + leastJ (nx t p) n K i) n) (K - i - 1)
  rw [hy] at e
  have e3 : lowC t p n = itr (nx t p) (i + leastJ (nx t p) n K i) n := by rw [lowC, e]; rfl
  refine ⟨by rw [e3]; exact hF.num (by omega), ?_⟩
  rw [e3, e]
  rfl

/-- The least numbers of the cycles into which 1 to k come. -/
def lowsL (t p : Int) : Nat → List Int
  | 0 => []
  | k + 1 => if (cyA t p ((k : Int) + 1)).isSome = true ∧ lowC t p ((k : Int) + 1) ∉ lowsL t p k then putI (lowC t p ((k : Int) + 1)) (lowsL t p k) else lowsL t p k
theorem lows_sorted (t p : Int) (k : Nat) : (lowsL t p k).Pairwise (· < ·) := by
  induction k with
  | zero => exact List.Pairwise.nil
  | succ k ih =>
    rw [lowsL]
    split
    · rename_i h; exact putI_sorted ih h.2
    · exact ih
theorem lows_len (t p : Int) (k : Nat) : (lowsL t p k).length ≤ k := by
  induction k with
  | zero => exact Nat.le_refl _
  | succ k ih =>
    rw [lowsL]
    split
    · rw [putI_length]; omega
    · omega
theorem lows_none {t p : Int} {k : Nat} (h : cyA t p ((k : Int) + 1) = none) : lowsL t p (k + 1) = lowsL t p k := by rw [lowsL, if_neg (by simp [h])]
theorem lows_there {t p : Int} {k : Nat} (h : lowC t p ((k : Int) + 1) ∈ lowsL t p k) : lowsL t p (k + 1) = lowsL t p k := by rw [lowsL, if_neg (by simp [h])]
theorem lows_new {t p : Int} {k : Nat} {x : Nat × Nat} (h : cyA t p ((k : Int) + 1) = some x) (hm : lowC t p ((k : Int) + 1) ∉ lowsL t p k) : lowsL t p (k + 1) = putI (lowC t p ((k : Int) + 1)) (lowsL t p k) := by rw [lowsL, if_pos ⟨by rw [h]; rfl, hm⟩]
/-- The same as the keys of a map. -/
def lowsD (t p : Int) : Nat → DataW Unit
  | 0 => .map []
  | k + 1 => if (cyA t p ((k : Int) + 1)).isSome = true then (lowsD t p k).put (.int .i64 (lowC t p ((k : Int) + 1))) (.lit (.bool true)) else lowsD t p k
theorem lowsD_none {t p : Int} {k : Nat} (h : cyA t p ((k : Int) + 1) = none) : lowsD t p (k + 1) = lowsD t p k := by rw [lowsD, if_neg (by simp [h])]
theorem lowsD_some {t p : Int} {k : Nat} {x : Nat × Nat} (h : cyA t p ((k : Int) + 1) = some x) : lowsD t p (k + 1) = (lowsD t p k).put (.int .i64 (lowC t p ((k : Int) + 1))) (.lit (.bool true)) := by rw [lowsD, if_pos (by rw [h]; rfl)]
theorem lowsD_isMap (t p : Int) (k : Nat) : IsMap (lowsD t p k) := by
  induction k with
  | zero => exact isMap_empty
  | succ k ih => rw [lowsD]; split; exact ih.put _ _; exact ih
theorem lowsD_tidy (t p : Int) (k : Nat) : Tidy (lowsD t p k) := by
  induction k with
  | zero => exact tidy_empty
  | succ k ih => rw [lowsD]; split; exact ih.put (key_ok _) _; exact ih
theorem lowsD_size (t p : Int) (k : Nat) : size (lowsD t p k) ≤ k := by
  induction k with
  | zero => exact Nat.le_refl _
  | succ k ih =>
    rw [lowsD]
    split
    · rw [size_put (lowsD_tidy t p k)]; split <;> omega
    · omega
theorem lowsD_has (t p x : Int) (k : Nat) : has (lowsD t p k) (.int .i64 x) = true ↔ x ∈ lowsL t p k := by
  induction k with
  | zero => simp [lowsD, lowsL, has_eq]
  | succ k ih =>
    cases h : cyA t p ((k : Int) + 1) with
    | none => rw [lowsD_none h, lows_none h]; exact ih
    | some y =>
      rw [lowsD_some h]
      by_cases hx : x = lowC t p ((k : Int) + 1)
      · subst hx
        rw [has_put_same (lowsD_isMap t p k) (key_ok _)]
        refine ⟨fun _ => ?_, fun _ => rfl⟩
        by_cases hm : lowC t p ((k : Int) + 1) ∈ lowsL t p k
        · rw [lows_there hm]; exact hm
        · rw [lows_new h hm]; exact mem_putI.2 (.inl rfl)
      · rw [has_put_other (key_ne hx), ih]
        by_cases hm : lowC t p ((k : Int) + 1) ∈ lowsL t p k
        · rw [lows_there hm]
        · rw [lows_new h hm, mem_putI]
          exact ⟨.inr, fun h => h.resolve_left hx⟩
theorem lows_collected (t p : Int) (k : Nat) : CollectedI (lowsD t p k) (fun _ => false) (lowsL t p k) :=
  ⟨(lows_sorted t p k).imp (fun h e => by omega), fun x => by rw [lowsD_has]; simp⟩
/-- An increasing list is what it sorts to. -/
theorem sorted_ms {xs ss : List Int} (hs : xs.Pairwise (· < ·)) (hp : ss.Perm xs) : ss.mergeSort (fun x y => decide (x ≤ y)) = xs := by
  have h1 := mergeSort_of_perm_i hp
  have h2 : xs.mergeSort leI = xs := List.mergeSort_of_pairwise (hs.imp (fun h => by simp only [leI, decide_eq_true_eq]; omega))
  exact h1.trans h2
end Go.Proofs.Ytlbiafeiedhhfaa
