/-
  WHAT IS BEFORE, BY AN OTHER MAP: plain mathematics of the list as it grows, and in order.
-/
import Derived.Test.YtbhmplccjaijjaaOmJ
import Derived.Test.YtbhmplccjaijjaaTreeN
namespace Go.Proofs.Ytbhmplccjaijjaa

/-- What the first j residues give. -/
def bfT (ps : List Pt) (n : Int) (j : Nat) : List Int := (List.range j).filterMap fun r => bfAt (ps.getD r pt0) r ps.length n
theorem bfT_all (ps : List Pt) (n : Int) : bfT ps n ps.length = bfO ps n := rfl
theorem bfT_yes {ps : List Pt} {n x : Int} {j : Nat} (h : bfAt (ps.getD j pt0) j ps.length n = some x) : bfT ps n (j + 1) = bfT ps n j ++ [x] := by
  unfold bfT
  rw [List.range_succ, List.filterMap_append]
  simp only [List.filterMap_cons, List.filterMap_nil, h]
theorem bfT_no {ps : List Pt} {n : Int} {j : Nat} (h : bfAt (ps.getD j pt0) j ps.length n = none) : bfT ps n (j + 1) = bfT ps n j := by
  unfold bfT
  rw [List.range_succ, List.filterMap_append]
  simp only [List.filterMap_cons, List.filterMap_nil, h, List.append_nil]
theorem bfT_len (ps : List Pt) (n : Int) (j : Nat) : (bfT ps n j).length ≤ j := by
  unfold bfT
  exact Nat.le_trans (List.length_filterMap_le _ _) (by simp)
theorem bfAt_odd {q : Pt} {r m : Nat} {n : Int} (h : (q.2.2 * n - q.2.1).tmod q.1 ≠ 0) : bfAt q r m n = none := by
  unfold bfAt
  rw [if_neg]
  rintro ⟨h1, _⟩
  exact h ((tmod_zero_iff _ _).2 h1)
theorem bfAt_yes {q : Pt} {r m : Nat} {n : Int} (h : (q.2.2 * n - q.2.1).tmod q.1 = 0) (h2 : (q.2.2 * n - q.2.1).tdiv q.1 % (m : Int) = (r : Int)) : bfAt q r m n = some ((q.2.2 * n - q.2.1).tdiv q.1) := by
  have e := (tmod_zero_iff _ _).1 h
  rw [tdiv_exact e] at h2 ⊢
  unfold bfAt
  rw [if_pos ⟨e, h2⟩]
theorem bfAt_else {q : Pt} {r m : Nat} {n : Int} (h2 : (q.2.2 * n - q.2.1).tdiv q.1 % (m : Int) ≠ (r : Int)) : bfAt q r m n = none := by
  unfold bfAt
  rw [if_neg]
  rintro ⟨h1, h3⟩
  rw [tdiv_exact h1] at h2
  exact h2 h3
/-- The other way to ask whether it is whole. -/
theorem whole_mul (a b p y : Int) (h : y - p = a) : a.tdiv b * b + p = y ↔ a.tmod b = 0 := by
  have := Int.tdiv_mul_add_tmod a b
  omega
theorem tdiv_mul_size {a b B : Int} (h1 : -B ≤ a) (h2 : a ≤ B) : -B ≤ a.tdiv b * b ∧ a.tdiv b * b ≤ B := by
  have e := Int.tdiv_mul_add_tmod a b
  rcases Int.le_total 0 a with h | h
  · have h3 := Int.tmod_nonneg b h
    have h4 : 0 ≤ a.tdiv b * b := by
      rcases Int.le_total 0 b with hb | hb
      · exact Int.mul_nonneg (Int.tdiv_nonneg h hb) hb
      · have := Int.mul_nonneg (Int.tdiv_nonneg h (show 0 ≤ -b by omega)) (show 0 ≤ -b by omega)
        rw [Int.tdiv_neg, Int.neg_mul_neg] at this
        exact this
    omega
  · have h3 := Int.tmod_nonneg b (show 0 ≤ -a by omega)
    rw [Int.neg_tmod] at h3
    have h4 : 0 ≤ (-a).tdiv b * b := by
      rcases Int.le_total 0 b with hb | hb
      · exact Int.mul_nonneg (Int.tdiv_nonneg (show 0 ≤ -a by omega) hb) hb
      · have := Int.mul_nonneg (Int.tdiv_nonneg (show 0 ≤ -a by omega) (show 0 ≤ -b by omega)) (show 0 ≤ -b by omega)
        rw [Int.tdiv_neg, Int.neg_mul_neg] at this
        exact this
    rw [Int.neg_tdiv, Int.neg_mul] at h4
    omega
theorem tdiv_sizeO {a g B : Int} (h0 : -B ≤ a) (h1 : a ≤ B) : -B ≤ a.tdiv g ∧ a.tdiv g ≤ B := by
  have : (a.tdiv g).natAbs ≤ a.natAbs := by rw [Int.natAbs_tdiv]; exact Nat.div_le_self _ _
  omega
theorem srt_filter (xs : List Int) (p : Int → Bool) : srtI (xs.filter p) = (srtI xs).filter p :=
  srt_eq ((srt_sorted xs).sublist List.filter_sublist) ((srt_perm xs).symm.filter p)
/-- What is handed back. -/
def bfB (ps : List Pt) (n : Int) : Bool := omB ps && numB n
def bfR (ps : List Pt) (n : Int) : List Int := if bfB ps n = true then (srtI (bfO ps n)).filter numB else []
theorem bfO_len (ps : List Pt) (n : Int) : (bfO ps n).length ≤ ps.length := by
  unfold bfO
  exact Nat.le_trans (List.length_filterMap_le _ _) (by simp)
theorem bfR_len (ps : List Pt) (n : Int) (h : omB ps = true) : (bfR ps n).length ≤ 8 := by
  unfold bfR
  split
  · have := (omB_len h).2
    have h2 := bfO_len ps n
    refine Nat.le_trans (List.length_filter_le _ _) ?_
    rw [srt_length]
    omega
  · simp
theorem bfR_len2 (ps : List Pt) (n : Int) : (bfR ps n).length ≤ 1048576 := by
  by_cases h : omB ps = true
  · exact Nat.le_trans (bfR_len ps n h) (by omega)
  · have : bfB ps n = false := by unfold bfB; simp [h]
    unfold bfR
    rw [this]
    simp
end Go.Proofs.Ytbhmplccjaijjaa
