/-
  THE TEXT OF A PUZZLE.
-/
import Derived.Test.YtgobjobppajkbaaDoorDgt
import Derived.Test.YtgobjobppajkbaaDoorTextM
import Derived.Test.YtgobjobppajkbaaDoorPzM
namespace Go.Proofs.YtgobjobppajkbaaDoor
open Go.RowKit
set_option linter.unusedVariables false

/-- The digits of a number of at least 0. -/
def dgP (x : Int) : List UInt8 := Lib.decDigits x.toNat
theorem dgP_len {x : Int} (h : x ≤ 1000000000000) : (dgP x).length ≤ 13 := dd_len 12 x.toNat (by omega)
theorem dgP_len2 {x : Int} (h : x ≤ 20) : (dgP x).length ≤ 2 := dd_len 1 x.toNat (by omega)
/-- A number that may be less than 0. -/
def sgP (p : Int) : List UInt8 := if p < 0 then [45] ++ dgP (-p) else dgP p
theorem sgP_len {x : Int} (h1 : -1000000000000 ≤ x) (h : x ≤ 1000000000000) : (sgP x).length ≤ 14 := by
  unfold sgP
  split
  · have := dgP_len (show -x ≤ 1000000000000 by omega)
    simp only [List.length_append, List.length_cons, List.length_nil]
    omega
  · have := dgP_len h
    omega
theorem itoaP (n : Int) : Lib.itoa n = sgP n := by
  rw [Lib.itoa, sgP]
  split
  · have : n.natAbs = (-n).toNat := by omega
    rw [this]
    rfl
  · rfl
/-- The text of a clue. -/
def clX (q : Pt) : List UInt8 := dgP q.1 ++ [46] ++ dgP q.2.1 ++ [46] ++ sgP q.2.2
/-- Numbers of a clue. -/
def clIn (q : Pt) : Prop := 0 ≤ q.1 ∧ q.1 ≤ 4 ∧ 0 ≤ q.2.1 ∧ q.2.1 ≤ 20 ∧ -1000000000000 ≤ q.2.2 ∧ q.2.2 ≤ 1000000000000
theorem inB_P {n lo hi : Int} : inB n lo hi = true ↔ lo ≤ n ∧ n ≤ hi := by simp [inB]
theorem clIn_of {q : Pt} (h : clB q = true) : clIn q := by
  have hk := clB_kind h
  unfold clB aIn bIn at h
  rw [Bool.and_eq_true] at h
  obtain ⟨h1, h2⟩ := h
  have hb : -1000000000000 ≤ q.2.2 ∧ q.2.2 ≤ 1000000000000 := by
    split at h2
    · split at h1
      · rw [inB_P] at h1 h2; omega
      · rw [inB_P] at h1 h2; omega
    · split at h2
      · exact numB_iff.1 h2
      · split at h2
        · rw [inB_P] at h2; omega
        · split at h2
          · rw [inB_P] at h2; omega
          · cases h2
  have ha : 0 ≤ q.2.1 ∧ q.2.1 ≤ 20 := by
    split at h1
    · rw [inB_P] at h1; omega
    · rw [inB_P] at h1; omega
  exact ⟨hk.1, hk.2, ha.1, ha.2, hb.1, hb.2⟩
theorem clX_len {q : Pt} (h : clIn q) : (clX q).length ≤ 20 := by
  obtain ⟨a, b, c, d, e, f⟩ := h
  have h1 := dgP_len2 (show q.1 ≤ 20 by omega)
  have h2 := dgP_len2 d
  have h3 := sgP_len e f
  simp only [clX, List.length_append, List.length_cons, List.length_nil]
  omega
/-- The texts of the first j clues, with , between them. -/
def czT (ps : List Pt) (j : Nat) : List UInt8 := Lib.join ((List.range j).map fun i => clX (ps.getD i pt0)) [44]
/-- What stands ahead of clue number j. -/
def czP (ps : List Pt) (j : Nat) : List UInt8 := if j = 0 then [] else czT ps j ++ [44]
theorem czT_zero (ps : List Pt) : czT ps 0 = [] := rfl
theorem czP_next (ps : List Pt) (j : Nat) : czT ps (j + 1) = czP ps j ++ clX (ps.getD j pt0) := by
  unfold czP
  rcases Nat.eq_zero_or_pos j with rfl | h
  · rw [if_pos rfl]
    simp [czT, List.range_succ, Lib.join_one]
  · rw [if_neg (by omega)]
    unfold czT
    rw [List.range_succ, List.map_append, List.map_singleton, join_snoc _ _ _ (by intro e; have := congrArg List.length e; simp at this; omega)]
theorem czT_len {ps : List Pt} {K : Nat} (h : ∀ i, i < K → clIn (ps.getD i pt0)) : ∀ j, j ≤ K → (czT ps j).length ≤ 21 * j := by
  intro j
  induction j with
  | zero => intro _; simp [czT_zero]
  | succ j ih =>
    intro hj
    have h1 := ih (by omega)
    have h2 := clX_len (h j (by omega))
    rw [czP_next, List.length_append]
    generalize (clX (ps.getD j pt0)).length = L at *
    unfold czP
    split
    · simp only [List.length_nil]; omega
    · simp only [List.length_append, List.length_cons, List.length_nil]; omega
/-- What stands ahead of the clues. -/
def hdP (t p : Int) : List UInt8 := mtx t p ++ [58]
theorem hdP_len (t p : Int) : (hdP t p).length = 5 := by simp [hdP, mtx, sgd_len]
/-- The text of the first j clues behind the map's. -/
def pzT (t p : Int) (ps : List Pt) (j : Nat) : List UInt8 := hdP t p ++ czT ps j
def pzP (t p : Int) (ps : List Pt) (j : Nat) : List UInt8 := hdP t p ++ czP ps j
theorem pzP_next (t p : Int) (ps : List Pt) (j : Nat) : pzT t p ps (j + 1) = pzP t p ps j ++ clX (ps.getD j pt0) := by
  unfold pzT pzP
  rw [czP_next, List.append_assoc]
theorem pzT_len (t p : Int) {ps : List Pt} {K : Nat} (h : ∀ i, i < K → clIn (ps.getD i pt0)) (j : Nat) (hj : j ≤ K) : (pzT t p ps j).length ≤ 5 + 21 * j := by
  have := czT_len h j hj
  simp only [pzT, List.length_append, hdP_len]
  omega
/-- What PuzzleText tells. -/
def pzX (t p : Int) (ps : List Pt) : ByteArray := if pzB t p ps = true then byt (pzT t p ps ps.length) else byt []
theorem pzX_no {t p : Int} {ps : List Pt} (h : pzB t p ps = false) : pzX t p ps = byt [] := by rw [pzX, if_neg (by rw [h]; simp)]
theorem pzX_yes {t p : Int} {ps : List Pt} (h : pzB t p ps = true) : pzX t p ps = byt (pzT t p ps ps.length) := by rw [pzX, if_pos h]
end Go.Proofs.YtgobjobppajkbaaDoor
