/-
  ONE TO ONE: what omOne reckons, plain mathematics.
-/
import Derived.Test.YtbhmplccjaijjaaIm
namespace Go.Proofs.Ytbhmplccjaijjaa
open Go.RowKit
set_option linter.unusedVariables false

theorem imT_rev {ps : List Pt} {j : Nat} (h : j < ps.length) : (imT ps (j + 1)).reverse = imAt ps j :: (imT ps j).reverse := by
  rw [imT_succ h, List.reverse_append]
  rfl
theorem imT_mem {ps : List Pt} {j : Nat} (hj : j ≤ ps.length) {b : Int × Int} (h : b ∈ imT ps j) : ∃ i, i < j ∧ imAt ps i = b := by
  unfold imT imL at h
  obtain ⟨r, hr, rfl⟩ := List.getElem_of_mem h
  have h2 : r < min j ps.length := by simpa using hr
  exact ⟨r, by omega, by simp⟩
theorem free_step {ps : List Pt} {j : Nat} (h : j < ps.length) (h1 : freeI (imT ps j).reverse = true) (h2 : ∀ i, i < j → meetB (imAt ps j) (imAt ps i) = false) : freeI (imT ps (j + 1)).reverse = true := by
  rw [imT_rev h, freeI, h1, Bool.true_and, List.all_eq_true]
  intro b hb
  obtain ⟨i, hi, rfl⟩ := imT_mem (Nat.le_of_lt h) (List.mem_reverse.1 hb)
  rw [h2 i hi]
  rfl
theorem rev_at {ps : List Pt} {i : Nat} (h : i < ps.length) : (imL ps).reverse[ps.length - 1 - i]? = some (imAt ps i) := by
  rw [List.getElem?_reverse (by rw [imL_length]; omega), imL_length, show ps.length - 1 - (ps.length - 1 - i) = i by omega]
  simp [imL, h]
theorem one_no {ps : List Pt} {i j : Nat} (hj : j < ps.length) (hi : i < j) (h : meetB (imAt ps j) (imAt ps i) = true) : oneB ps = false := by
  cases ho : oneB ps with
  | false => rfl
  | true =>
    unfold oneB at ho
    rw [Bool.and_eq_true] at ho
    have := free_at ho.1 (ps.length - 1 - j) (ps.length - 1 - i) _ _ (by omega) (rev_at hj) (rev_at (by omega))
    rw [this] at h
    cases h
theorem one_end {ps : List Pt} (h : freeI (imT ps ps.length).reverse = true) : oneB ps = decide (shrI (imT ps ps.length).reverse = prodI (imT ps ps.length).reverse) := by
  rw [imT_all] at h ⊢
  rw [oneB, h, Bool.true_and]
/-- The fraction of the shares told so far. -/
def FrI (l : List (Int × Int)) (n d : Int) : Prop := 0 ≤ n ∧ 1 ≤ d ∧ ∃ k : Int, 1 ≤ k ∧ n * k = shrI l ∧ d * k = prodI l
theorem frI_nil : FrI [] 0 1 := ⟨by omega, by omega, 1, by omega, by simp [shrI], by simp [prodI]⟩
theorem frI_step {l : List (Int × Int)} {n d : Int} (h : FrI l n d) {a : Int × Int} (ha : 1 ≤ a.2) :
    FrI (a :: l) ((n * a.2 + d).tdiv (Int.gcd (d * a.2) (n * a.2 + d) : Int)) ((d * a.2).tdiv (Int.gcd (d * a.2) (n * a.2 + d) : Int)) := by
  obtain ⟨h0, h1, k, hk, e1, e2⟩ := h
  have p1 : 0 ≤ n * a.2 := Int.mul_nonneg h0 (by omega)
  have p2 : 1 ≤ d * a.2 := by
    have := Int.mul_pos (show 0 < d by omega) (show 0 < a.2 by omega)
    omega
  obtain ⟨g, hg⟩ : ∃ g : Int, (Int.gcd (d * a.2) (n * a.2 + d) : Int) = g := ⟨_, rfl⟩
  have g1 : g ∣ d * a.2 := by rw [← hg]; exact Int.gcd_dvd_left ..
  have g2 : g ∣ n * a.2 + d := by rw [← hg]; exact Int.gcd_dvd_right ..
  have g0 : 1 ≤ g := by
    rw [← hg]
    have : 0 < Int.gcd (d * a.2) (n * a.2 + d) := Int.gcd_pos_of_ne_zero_left _ (by omega)
    omega
  rw [hg]
  have q1 := Int.ediv_mul_cancel g1
  have q2 := Int.ediv_mul_cancel g2
  rw [Int.tdiv_eq_ediv_of_nonneg (by omega), Int.tdiv_eq_ediv_of_nonneg (by omega)]
  refine ⟨Int.ediv_nonneg (by omega) (by omega), ?_, g * k, ?_, ?_, ?_⟩
  · rcases Int.lt_or_le 0 (d * a.2 / g) with h | h
    · omega
    · have : d * a.2 / g * g ≤ 0 := Int.mul_nonpos_of_nonpos_of_nonneg h (by omega)
      omega
  · have := Int.mul_pos (show 0 < g by omega) (show 0 < k by omega)
    omega
  · rw [← Int.mul_assoc, q2, shrI, ← e1, ← e2, Int.add_mul, Int.mul_right_comm]
  · rw [← Int.mul_assoc, q1, prodI, ← e2, Int.mul_right_comm]
theorem frI_end {l : List (Int × Int)} {n d : Int} (h : FrI l n d) : decide (n = d) = decide (shrI l = prodI l) := by
  obtain ⟨_, _, k, hk, e1, e2⟩ := h
  rw [← e1, ← e2]
  congr 1
  apply propext
  constructor
  · intro e; rw [e]
  · intro e; exact Int.eq_of_mul_eq_mul_right (by omega) e
theorem shr_le : ∀ {l : List (Int × Int)}, (∀ a ∈ l, 1 ≤ a.2 ∧ a.2 ≤ 160) → prodI l ≤ 160 ^ l.length ∧ shrI l ≤ (l.length : Int) * 160 ^ l.length
  | [], _ => by simp [prodI, shrI]
  | a :: l, h => by
    obtain ⟨h1, h2⟩ := shr_le (l := l) (fun b hb => h b (List.mem_cons_of_mem _ hb))
    obtain ⟨a1, a2⟩ := h a List.mem_cons_self
    have hp := prodI_pos (l := l) (fun b hb => (h b (List.mem_cons_of_mem _ hb)).1)
    have hP : (0 : Int) ≤ 160 ^ l.length := Int.le_trans (by omega) h1
    have hL : (0 : Int) ≤ (l.length : Int) * 160 ^ l.length := Int.mul_nonneg (by omega) hP
    have m1 : prodI l * a.2 ≤ 160 ^ l.length * 160 := Int.mul_le_mul h1 a2 (by omega) hP
    have m2 : shrI l * a.2 ≤ (l.length : Int) * 160 ^ l.length * 160 := by
      rcases Int.lt_or_le (shrI l) 0 with hs | hs
      · have := Int.mul_nonpos_of_nonpos_of_nonneg (show shrI l ≤ 0 by omega) (show 0 ≤ a.2 by omega)
        have : 0 ≤ (l.length : Int) * 160 ^ l.length * 160 := Int.mul_nonneg hL (by omega)
        omega
      · exact Int.mul_le_mul h2 a2 (by omega) hL
    rw [prodI, shrI, List.length_cons, Int.pow_succ]
    refine ⟨m1, ?_⟩
    rw [show ((l.length + 1 : Nat) : Int) = (l.length : Int) + 1 by omega, Int.add_mul, Int.one_mul, ← Int.mul_assoc]
    omega
theorem pow_up : ∀ {m : Nat}, m ≤ 7 → (160 : Int) ^ m ≤ 2684354560000000 := by
  intro m h
  have : m = 0 ∨ m = 1 ∨ m = 2 ∨ m = 3 ∨ m = 4 ∨ m = 5 ∨ m = 6 ∨ m = 7 := by omega
  rcases this with rfl | rfl | rfl | rfl | rfl | rfl | rfl | rfl <;> decide
theorem frI_le {l : List (Int × Int)} {n d : Int} (h : FrI l n d) (hl : ∀ a ∈ l, 1 ≤ a.2 ∧ a.2 ≤ 160) (hm : l.length ≤ 7) : n ≤ 18790481920000000 ∧ d ≤ 2684354560000000 := by
  obtain ⟨h0, h1, k, hk, e1, e2⟩ := h
  obtain ⟨s1, s2⟩ := shr_le hl
  have hp := pow_up hm
  have hP : (0 : Int) ≤ 160 ^ l.length := Int.le_trans (by have := Int.mul_pos (show 0 < d by omega) (show 0 < k by omega); omega) s1
  have a1 : n * 1 ≤ n * k := Int.mul_le_mul_of_nonneg_left hk h0
  have a2 : d * 1 ≤ d * k := Int.mul_le_mul_of_nonneg_left hk (by omega)
  have a3 : (l.length : Int) * 160 ^ l.length ≤ 7 * 2684354560000000 := Int.mul_le_mul (by omega) hp hP (by omega)
  omega
theorem imT_in {ps : List Pt} (h : omB ps = true) {j : Nat} (hj : j ≤ ps.length) : ∀ a ∈ (imT ps j).reverse, 1 ≤ a.2 ∧ a.2 ≤ 160 := by
  intro a ha
  obtain ⟨i, hi, rfl⟩ := imT_mem hj (List.mem_reverse.1 ha)
  have hok := omB_at h (show i < ps.length by omega)
  exact ⟨imMod_pos hok (omB_len h).1, imMod_le hok (omB_len h).2⟩
end Go.Proofs.Ytbhmplccjaijjaa
