/-
  WHAT THE LAW 'NumbersBeforeOfAll' WANTS OF LEVELS: a level's numbers come to the root, the sizes' first and last, the odd number before and the double, barren numbers' branches. No walk.
-/
import Derived.Test.YtbejddpdccddpaaLevL
import Derived.Test.YtbejddpdccddpaaBranch
import Derived.Test.YtbejddpdccddpaaAft
import Derived.Test.YtbejddpdccddpaaYes
namespace Go.Proofs.Ytbejddpdccddpaa
open Go.RowKit
set_option linter.unusedVariables false

/-- What a level that there is has of all that the law asks. -/
structure LevF (t p r k : Int) (K : Nat) : Prop where
  k_eq : k = K
  K_le : K ≤ 20
  good : goodB t p = true
  len : (szX t p r k).length = K + 1
  first : (szX t p r k).getD 0 0 = 1
  last : (szX t p r k).getD K 0 = ((lvX false t p r k).length : Int)
  rises : (lvX false t p r k).Pairwise (· < ·)
  root : ∀ x ∈ lvX false t p r k, aft t p (nx t p) x (K : Int) = (r, true)
  num : ∀ x ∈ lvX false t p r k, numB x = true
theorem levF {t p r k : Int} (h : lvB false t p r k = true) : ∃ K, LevF t p r k K := by
  cases ho : lvO false t p r k with
  | none => rw [lvB, ho] at h; cases h
  | some xs =>
    obtain ⟨ha, hg, hr, K, rfl, hK, hl⟩ := lvO_some ho
    have hX : lvX false t p r K = xs := by rw [lvX, ho]; rfl
    have hS : szX t p r K = szL t p r K := by rw [szX, if_pos h, Int.toNat_natCast]
    refine ⟨K, rfl, hK, hg, by rw [hS, szL_length], ?_, ?_, by rw [hX]; exact levL_lt hg hl, ?_, ?_⟩
    · rw [hS, szL_at (j := 0) (ys := [r]) (Nat.zero_le _) rfl]; rfl
    · rw [hS, hX, szL_at (Nat.le_refl _) hl]
    · intro x hx
      rw [hX] at hx
      obtain ⟨h1, h2⟩ := (levL_mem hg hr K xs hl x).1 hx
      have hn := levL_num hg hr hl hx
      have hask : askB t p x K = true := askB_iff.2 ⟨hg, hn, by omega, by omega⟩
      rw [aft, if_pos ⟨hask, by rw [Int.toNat_natCast]; exact h2⟩, Int.toNat_natCast]
      rw [show itr (nx t p) K x = r from h1]
    · intro x hx
      rw [hX] at hx
      exact levL_num hg hr hl hx
/-- The odd number before n, and the numbers before n. -/
structure BefF (t p n : Int) : Prop where
  good : goodB t p = true
  num : numB n = true
  rises : (lvX false t p n 1).Pairwise (· < ·)
  double : decide (2 * n ∈ lvX false t p n 1) = numB (2 * n)
  odd : ∀ x, obO t p n = some x → x ∈ lvX false t p n 1
  mem : ∀ b ∈ lvX false t p n 1, numB b = true ∧ aft t p (nx t p) b 1 = (n, true) ∧ (b = 2 * n ∨ obO t p n = some b)
theorem befF {t p n : Int} (h : lvB false t p n 1 = true) : BefF t p n := by
  cases ho : lvO false t p n 1 with
  | none => rw [lvB, ho] at h; cases h
  | some xs =>
    obtain ⟨ha, hg, hn, K, hKe, hK, hl⟩ := lvO_some ho
    obtain rfl : K = 1 := by omega
    rw [levL_one hg] at hl
    obtain rfl : befB false t p n = xs := by simpa using hl
    have hX : lvX false t p n 1 = befB false t p n := by rw [lvX, ho]; rfl
    have hob : obO t p n = oddBf t p n := by rw [obO, if_pos (by simp [askN, hg, hn])]
    have hmem : ∀ b, b ∈ befB false t p n ↔ obO t p n = some b ∨ (numB b = true ∧ b = 2 * n) := fun b => by
      rw [hob]
      show b ∈ putO (oddBf t p n) (dblL n) ↔ _
      rw [mem_putO, mem_dblL]
    refine ⟨hg, hn, by rw [hX]; exact bef_sorted false hg, ?_, fun x hx => by rw [hX]; exact (hmem x).2 (.inl hx), fun b hb => ?_⟩
    · rw [hX, Bool.eq_iff_iff, decide_eq_true_eq]
      constructor
      · intro h2; exact bef_num hg h2
      · intro h2; exact (hmem _).2 (.inr ⟨h2, rfl⟩)
    · rw [hX] at hb
      have h1 := (mem_befL hg).1 hb
      refine ⟨h1.1, ?_, ?_⟩
      · rw [aft_one hg h1.1, h1.2, hn]; rfl
      · rcases (hmem b).1 hb with h3 | h3
        · exact .inr h3
        · exact .inl h3.2
/-- The odd number before x is odd, and its next one is x. -/
theorem obO_facts {t p x y : Int} (h : obO t p x = some y) : y % 2 ≠ 0 ∧ t * y + p = x ∧ goodB t p = true ∧ numB y = true ∧ numB x = true := by
  unfold obO at h
  split at h
  · rename_i ha
    have hg : goodB t p = true := by simp only [askN, Bool.and_eq_true] at ha; exact ha.1
    have hx : numB x = true := by simp only [askN, Bool.and_eq_true] at ha; exact ha.2
    obtain ⟨h1, h2, h3⟩ := (oddBf_iff hg).1 h
    exact ⟨h2, h3, hg, h1, hx⟩
  · cases h
/-- A barren number has no branch. -/
theorem bar_branch {t p y : Int} (hg : goodB t p = true) (h : barP t p y = true) : brL t p y 7 = [] := by
  have hc : ∀ j, j < 7 → comesP t p (itr dblF j y) = false := by
    intro j hj
    cases j with
    | succ j =>
      rw [barP, List.all_eq_true] at h
      have := h j (List.mem_range.2 (by omega))
      simpa using this
    | zero =>
      obtain ⟨g1, _, g3, _, _, g6⟩ := goodB_iff.1 hg
      rw [bar_eq y hg, barS, List.all_eq_true] at h
      have h0 := h 0 (List.mem_range.2 (by omega))
      simp only [itr, Bool.not_eq_true'] at h0
      rw [hitS, beq_eq_false_iff_ne] at h0
      rw [Bool.eq_false_iff]
      intro hcp
      obtain ⟨e1, e2⟩ : y % 2 = 0 ∧ (y - p).tmod t = 0 := of_decide_eq_true hcp
      apply h0
      obtain ⟨q, hq⟩ := Int.dvd_iff_tmod_eq_zero.2 e2
      have hqo : q % 2 = 1 := by
        have h1 : (t * q) % 2 = 1 := by omega
        rcases (by omega : q % 2 = 0 ∨ q % 2 = 1) with h2 | h2
        · rw [Int.mul_emod, h2] at h1; simp at h1
        · exact h2
      obtain ⟨s, hs⟩ : ∃ s, q = 2 * s + 1 := ⟨q / 2, by omega⟩
      have e3 : y % (2 * t) - p - t = (2 * t) * (s - y / (2 * t)) := by
        have h1 := Int.emod_add_mul_ediv y (2 * t)
        have h2 : y = p + t * (2 * s + 1) := by rw [← hs]; omega
        have h3 : t * (2 * s + 1) = 2 * t * s + t := by rw [Int.mul_add, Int.mul_one, ← Int.mul_assoc, Int.mul_comm t 2]
        rw [Int.mul_sub]
        omega
      rw [e3]
      exact Int.mul_emod_right _ _
  have hn : ∀ j, j < 7 → oddBf t p (itr dblF j y) = none := fun j hj => by
    have e : oddP t p (itr dblF j y) = 1000000000001 := by rw [oddP, if_neg (by rw [hc j hj]; simp)]
    rw [oddBf_oddP hg, e, if_neg (by decide)]
  have : ∀ j, j ≤ 7 → brL t p y j = [] := by
    intro j
    induction j with
    | zero => intro _; rfl
    | succ j ih => intro hj; rw [brL, ih (by omega), hn j (by omega)]; rfl
  exact this 7 (Nat.le_refl _)
end Go.Proofs.Ytbejddpdccddpaa
