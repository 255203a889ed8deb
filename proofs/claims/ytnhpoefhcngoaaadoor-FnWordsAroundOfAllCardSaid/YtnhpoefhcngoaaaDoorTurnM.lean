/-
  PLAIN MATHEMATICS OF TURNED WORDS: turns, the first one of them, primitive words. No Go, no program.
-/
import Derived.Test.YtnhpoefhcngoaaaDoorWord
import Derived.Lib.IndexLaws
import Derived.Lib.IndexMore
namespace Go.Proofs.YtnhpoefhcngoaaaDoor

/-- A word told from its k-th sign on. -/
def rotL (l : List UInt8) (k : Nat) : List UInt8 := l.drop k ++ l.take k
theorem rotL_length (l : List UInt8) (k : Nat) : (rotL l k).length = l.length := by
  simp [rotL]; omega
theorem rotL_signs {l : List UInt8} (h : Signs l) (k : Nat) : Signs (rotL l k) := by
  intro c hc
  rw [rotL, List.mem_append] at hc
  rcases hc with hc | hc
  · exact h c (List.mem_of_mem_drop hc)
  · exact h c (List.mem_of_mem_take hc)
/-- The first one of a word and its first k turns. -/
def ltk (l : List UInt8) : Nat → List UInt8
  | 0 => l
  | k + 1 => if rotL l k < ltk l k then rotL l k else ltk l k
theorem ltk_length (l : List UInt8) (k : Nat) : (ltk l k).length = l.length := by
  induction k with
  | zero => rfl
  | succ k ih => rw [ltk]; split
                 · exact rotL_length _ _
                 · exact ih
theorem ltk_signs {l : List UInt8} (h : Signs l) (k : Nat) : Signs (ltk l k) := by
  induction k with
  | zero => exact h
  | succ k ih => rw [ltk]; split
                 · exact rotL_signs h _
                 · exact ih
/-- The first one of all turns of a word. -/
def leastT (l : List UInt8) : List UInt8 := ltk l l.length
/-- Is none of its turns, by 1 up to one less than its length, the word itself? -/
def primB (l : List UInt8) : Bool := (List.range (l.length - 1)).all fun (k : Nat) => rotL l (k + 1) != l
theorem primB_yes {l : List UInt8} (h : ∀ k, 1 ≤ k → k < l.length → rotL l k ≠ l) : primB l = true := by
  rw [primB, List.all_eq_true]
  intro k hk
  simp only [List.mem_range] at hk
  simpa using h (k + 1) (by omega) (by omega)
theorem primB_no {l : List UInt8} {k : Nat} (h1 : 1 ≤ k) (h2 : k < l.length) (h : rotL l k = l) : primB l = false := by
  rw [Bool.eq_false_iff]
  intro hp
  rw [primB, List.all_eq_true] at hp
  have := hp (k - 1) (by simp; omega)
  rw [show k - 1 + 1 = k by omega, h] at this
  simp at this
theorem primB_ne {l : List UInt8} (hp : primB l = true) {k : Nat} (h1 : 1 ≤ k) (h2 : k < l.length) : rotL l k ≠ l := by
  intro h
  rw [primB_no h1 h2 h] at hp
  cases hp

theorem occ_turn {l : List UInt8} {i : Nat} (hi : i + 1 ≤ l.length) : Lib.occAt (l.drop 1 ++ l) l i = (rotL l (i + 1) == l) := by
  unfold Lib.occAt rotL
  have e : (l.drop 1 ++ l).drop i = l.drop (i + 1) ++ l := by
    rw [List.drop_append_of_le_length (by simp; omega), List.drop_drop, Nat.add_comm 1 i]
  rw [e, Bool.eq_iff_iff, List.isPrefixOf_iff_prefix, beq_iff_eq]
  constructor
  · intro h
    have h2 := List.prefix_iff_eq_take.1 h
    rw [List.take_append, List.take_of_length_le (by simp)] at h2
    rw [show l.length - (l.drop (i + 1)).length = i + 1 by simp; omega] at h2
    exact h2.symm
  · intro h
    refine ⟨l.drop (i + 1), ?_⟩
    have h2 : l.take (i + 1) ++ l.drop (i + 1) = l := List.take_append_drop _ _
    have h3 : (l.drop (i + 1) ++ l.take (i + 1)) ++ l.drop (i + 1) = l.drop (i + 1) ++ l := by rw [List.append_assoc, h2]
    rw [h] at h3
    exact h3
theorem rotL_all (l : List UInt8) : rotL l l.length = l := by simp [rotL]
theorem rotL_zero (l : List UInt8) : rotL l 0 = l := by simp [rotL]
/-- Where a word is first found in its own turns: behind all of them if it is primitive. -/
theorem index_prim {l : List UInt8} (hl : 1 ≤ l.length) : (Lib.index (l.drop 1 ++ l) l == (l.length : Int) - 1) = primB l := by
  cases hp : primB l
  · -- some turn is the word
    have : ∃ k, 1 ≤ k ∧ k < l.length ∧ rotL l k = l := by
      have h2 : ¬ ∀ k, 1 ≤ k → k < l.length → rotL l k ≠ l := fun h => by rw [primB_yes h] at hp; cases hp
      have : ∃ k, ¬ (1 ≤ k → k < l.length → rotL l k ≠ l) := Classical.not_forall.1 h2
      obtain ⟨k, hk⟩ := this
      exact ⟨k, by omega, by
        refine Classical.byContradiction fun h => hk fun _ h3 => absurd h3 h, by
        refine Classical.byContradiction fun h => hk fun _ _ => h⟩
    obtain ⟨k, k1, k2, hk⟩ := this
    rcases Lib.index_spec (l.drop 1 ++ l) l with ⟨h1, h2⟩ | ⟨i, h1, h2, h3, h4⟩
    · rw [h1]; simp <;> omega
    · rw [h1]
      have : i ≤ k - 1 := by
        refine Classical.byContradiction fun h => ?_
        have := h4 (k - 1) (by omega)
        rw [occ_turn (by omega), show k - 1 + 1 = k by omega, hk] at this
        simp at this
      simp
      omega
  · have h1 : Lib.index (l.drop 1 ++ l) l = ((l.length - 1 : Nat) : Int) := by
      refine Lib.index_first (by simp <;> omega) ?_ ?_
      · rw [occ_turn (by omega), show l.length - 1 + 1 = l.length by omega, rotL_all]; simp
      · intro j hj
        rw [occ_turn (by omega)]
        simpa using primB_ne hp (k := j + 1) (by omega) (by omega)
    rw [h1]
    simp
    omega
end Go.Proofs.YtnhpoefhcngoaaaDoor
