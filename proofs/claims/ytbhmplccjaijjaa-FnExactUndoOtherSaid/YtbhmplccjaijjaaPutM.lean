/-
  A NUMBER PUT INTO AN INCREASING LIST WHERE IT BELONGS. No program.
-/
import Derived.Test.YtbhmplccjaijjaaMath
import Derived.Maps.Views
import Derived.Lib.SlKeysI
namespace Go.Proofs.Ytbhmplccjaijjaa
open Go.Maps

/-- How many at the list's beginning are less. -/
def posI (x : Int) : List Int → Nat
  | [] => 0
  | y :: ys => if y < x then posI x ys + 1 else 0
def putI (x : Int) (xs : List Int) : List Int := xs.take (posI x xs) ++ x :: xs.drop (posI x xs)
theorem posI_le (x : Int) (xs : List Int) : posI x xs ≤ xs.length := by
  induction xs with
  | nil => exact Nat.le_refl _
  | cons y ys ih => rw [posI]; split <;> simp <;> omega
theorem posI_before {x : Int} : ∀ {xs : List Int} {j : Nat}, j < posI x xs → xs.getD j 0 < x
  | [], j, h => by simp [posI] at h
  | y :: ys, j, h => by
    rw [posI] at h
    split at h
    · rename_i hy
      cases j with
      | zero => exact hy
      | succ j => exact posI_before (xs := ys) (by omega)
    · omega
theorem posI_at {x : Int} : ∀ {xs : List Int}, posI x xs < xs.length → ¬ xs.getD (posI x xs) 0 < x
  | [], h => by simp [posI] at h
  | y :: ys, h => by
    by_cases hy : y < x
    · have e : posI x (y :: ys) = posI x ys + 1 := by rw [posI, if_pos hy]
      rw [e] at h ⊢
      exact posI_at (xs := ys) (by simpa using h)
    · have e : posI x (y :: ys) = 0 := by rw [posI, if_neg hy]
      rw [e]
      exact hy
theorem putI_nil (x : Int) : putI x [] = [x] := rfl
theorem putI_lt {x y : Int} (ys : List Int) (h : y < x) : putI x (y :: ys) = y :: putI x ys := by simp [putI, posI, h]
theorem putI_ge {x y : Int} (ys : List Int) (h : ¬ y < x) : putI x (y :: ys) = x :: y :: ys := by simp [putI, posI, h]
theorem mem_putI {x z : Int} {xs : List Int} : z ∈ putI x xs ↔ z = x ∨ z ∈ xs := by
  have h : xs.take (posI x xs) ++ xs.drop (posI x xs) = xs := List.take_append_drop _ _
  have h2 : z ∈ xs ↔ z ∈ xs.take (posI x xs) ∨ z ∈ xs.drop (posI x xs) := by
    constructor
    · intro hz; rw [← h] at hz; simpa using List.mem_append.1 hz
    · intro hz; rw [← h]; exact List.mem_append.2 hz
  rw [h2, putI, List.mem_append, List.mem_cons]
  constructor
  · rintro (a | b | c)
    · exact .inr (.inl a)
    · exact .inl b
    · exact .inr (.inr c)
  · rintro (a | b | c)
    · exact .inr (.inl a)
    · exact .inl b
    · exact .inr (.inr c)
theorem putI_length (x : Int) (xs : List Int) : (putI x xs).length = xs.length + 1 := by
  have := posI_le x xs
  simp [putI]
  omega
theorem putI_ne (x : Int) (xs : List Int) : putI x xs ≠ [] := by
  intro e
  have := putI_length x xs
  rw [e] at this
  simp at this
theorem putI_sorted {x : Int} : ∀ {xs : List Int}, xs.Pairwise (· < ·) → x ∉ xs → (putI x xs).Pairwise (· < ·)
  | [], _, _ => by rw [putI_nil]; simp
  | y :: ys, h, hx => by
    rw [List.pairwise_cons] at h
    by_cases hy : y < x
    · rw [putI_lt ys hy, List.pairwise_cons]
      refine ⟨fun z hz => ?_, putI_sorted h.2 (fun e => hx (List.mem_cons_of_mem _ e))⟩
      rcases mem_putI.1 hz with rfl | hz
      · exact hy
      · exact h.1 z hz
    · rw [putI_ge ys hy, List.pairwise_cons]
      have hxy : x < y := by
        have : x ≠ y := fun e => hx (by rw [e]; exact List.mem_cons_self ..)
        omega
      refine ⟨fun z hz => ?_, List.pairwise_cons.2 h⟩
      rcases List.mem_cons.1 hz with rfl | hz
      · exact hxy
      · have := h.1 z hz; omega

/-- An increasing list is what it sorts to. -/
theorem sorted_ms {xs ss : List Int} (hs : xs.Pairwise (· < ·)) (hp : ss.Perm xs) : ss.mergeSort (fun x y => decide (x ≤ y)) = xs := by
  have h1 := mergeSort_of_perm_i hp
  have h2 : xs.mergeSort leI = xs := List.mergeSort_of_pairwise (hs.imp (fun h => by simp only [leI, decide_eq_true_eq]; omega))
  exact h1.trans h2
end Go.Proofs.Ytbhmplccjaijjaa
