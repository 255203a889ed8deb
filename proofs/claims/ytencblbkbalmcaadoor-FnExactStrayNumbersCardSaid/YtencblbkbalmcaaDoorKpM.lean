/-
  DOES A NUMBER KEEP TO ITS RESIDUE: plain mathematics. No program.
-/
import Derived.Test.YtencblbkbalmcaaDoorFaM
import Derived.Test.YtencblbkbalmcaaDoorFwM
namespace Go.Proofs.YtencblbkbalmcaaDoor

/-- Behind how many of the first k short steps a number first is less than it was; 0: behind none. -/
def f1 (t p n : Int) : Nat → Nat
  | 0 => 0
  | k + 1 => if f1 t p n k ≠ 0 then f1 t p n k else if itr (sx t p) (k + 1) n < n then k + 1 else 0
theorem f1_less {t p n : Int} : ∀ {k : Nat}, f1 t p n k = 0 → NoLs n (upto (sx t p) n (k + 1))
  | 0, _ => by
    intro x hx
    simp [upto, itr] at hx
    subst hx
    simp
  | k + 1, h => by
    rw [f1] at h
    split at h
    · rename_i h2; exact absurd h h2
    · rename_i h2
      split at h
      · cases h
      · rename_i h3
        have h4 : f1 t p n k = 0 := by simpa using h2
        have ih := f1_less h4
        rw [upto_succ]
        intro x hx
        rcases List.mem_append.1 hx with hx | hx
        · exact ih x hx
        · obtain rfl : x = (((k + 1 : Nat) : Int), itr (sx t p) (k + 1) n) := by simpa using hx
          simpa using h3
theorem f1_at {t p n : Int} : ∀ {S j : Nat}, f1 t p n S = j → j ≠ 0 → j ≤ S ∧ itr (sx t p) j n < n ∧ f1 t p n (j - 1) = 0
  | 0, j, h, hj => by rw [f1] at h; omega
  | S + 1, j, h, hj => by
    rw [f1] at h
    split at h
    · obtain ⟨h1, h2, h3⟩ := f1_at h hj
      exact ⟨by omega, h2, h3⟩
    · rename_i h2
      split at h
      · rename_i h3
        subst h
        exact ⟨Nat.le_refl _, h3, by simpa using h2⟩
      · omega
theorem f1_hit {t p n : Int} {S : Nat} (hg : goodB t p = true) (hS : S ≤ 900) (hall : allB (sx t p) n (S + 1) = true) : hitK (seqOf t p (sx t p) n) S (fun x => decide (x.2 < n)) = (((f1 t p n S : Nat) : Int), decide (f1 t p n S ≠ 0)) := by
  have hpre : ∀ j, j ≤ S → upto (sx t p) n (j + 1) <+: seqOf t p (sx t p) n := fun j hj => by
    rw [seqOf, if_pos hg]
    refine upto_prefix _ _ ?_
    have := (lt_cnt (sx t p) 1001 n j).2 ⟨by omega, allB_le (by omega) hall⟩
    omega
  by_cases h : f1 t p n S = 0
  · rw [h]
    have hno := f1_less h
    refine (hit_none (fun y hy => hno y ?_)).trans rfl
    have h2 : (seqOf t p (sx t p) n).take (S + 1) <+: upto (sx t p) n (S + 1) := List.prefix_of_prefix_length_le (List.take_prefix _ _) (hpre S (Nat.le_refl _)) (by rw [List.length_take, upto_length]; exact Nat.min_le_left _ _)
    exact h2.subset hy
  · obtain ⟨j, hj⟩ : ∃ j, f1 t p n S = j := ⟨_, rfl⟩
    obtain ⟨h1, h2, h3⟩ := f1_at hj (by omega)
    obtain ⟨i, rfl⟩ : ∃ i, j = i + 1 := ⟨j - 1, by omega⟩
    have hno := f1_less (k := i) h3
    have hp := hpre (i + 1) h1
    rw [upto_succ] at hp
    rw [hj]
    refine (hitK_some (x := (((i + 1 : Nat) : Int), itr (sx t p) (i + 1) n)) hno (by simpa using h2) hp (by rw [upto_length]; omega)).trans ?_
    simp
/-- Is it as its residue tells, behind the first k short steps? -/
def kb (t p n : Int) (f : Nat) : Nat → Bool
  | 0 => true
  | k + 1 => kb t p n f k && (decide (itr (sx t p) (k + 1) n < n) == decide (k + 1 = f))
theorem kb_before {t p n : Int} {f : Nat} : ∀ {k : Nat}, (f = 0 ∨ k < f) → kb t p n f k = decide (f1 t p n k = 0)
  | 0, _ => rfl
  | k + 1, h => by
    rw [kb, kb_before (k := k) (by omega), f1]
    have hd : decide (k + 1 = f) = false := by simp; omega
    rw [hd]
    by_cases h1 : f1 t p n k = 0
    · rw [if_neg (by simp [h1])]
      by_cases h2 : itr (sx t p) (k + 1) n < n
      · rw [if_pos h2]; simp [h1, h2]
      · rw [if_neg h2]; simp [h1, h2]
    · rw [if_pos h1]; simp [h1]
theorem kb_eq {t p n : Int} {f S : Nat} (h : f = 0 ∨ f = S) : (((f1 t p n S : Nat) : Int) == ((f : Nat) : Int)) = kb t p n f S := by
  rcases h with rfl | rfl
  · rw [kb_before (.inl rfl), Bool.eq_iff_iff]; simp
  · cases f with
    | zero => rfl
    | succ k =>
      rw [kb, kb_before (k := k) (.inr (by omega)), f1]
      by_cases h1 : f1 t p n k = 0
      · rw [if_neg (by simp [h1])]
        by_cases h2 : itr (sx t p) (k + 1) n < n
        · rw [if_pos h2]; simp [h1, h2]
        · rw [if_neg h2]; simp [h1, h2]; omega
      · rw [if_pos h1]
        have hle : f1 t p n k ≤ k := (f1_at rfl h1).1
        have : (((f1 t p n k : Nat) : Int) == ((k + 1 : Nat) : Int)) = false := by simp; omega
        rw [this]; simp [h1]
/-- Behind how many short steps it is looked at. -/
def stK (t p n : Int) (K : Nat) : Nat := if fa t p n K = 0 then K else fa t p n K
theorem stK_le (t p n : Int) (K : Nat) : stK t p n K ≤ K := by
  unfold stK
  have := fa_le t p n K
  split <;> omega
theorem stK_or (t p n : Int) (K : Nat) : fa t p n K = 0 ∨ fa t p n K = stK t p n K := by
  unfold stK
  split
  · rename_i h; exact .inl h
  · exact .inr rfl
/-- Does it keep to its residue; are all on the way numbers? -/
def kp (t p n : Int) (K : Nat) : Bool × Bool := if allB (sx t p) n (stK t p n K + 1) = true then (kb t p n (fa t p n K) (stK t p n K), true) else (false, false)
end Go.Proofs.YtencblbkbalmcaaDoor
