/-
  PUZZLES: plain mathematics: clues, what a hidden number's value is, which numbers fit.
-/
import Derived.Test.YtgobjobppajkbaaDoorFar
namespace Go.Proofs.YtgobjobppajkbaaDoor
open Go.RowKit
set_option linter.unusedVariables false

/-- A clue: Kind, A, B. -/
abbrev Pt := Int × Int × Int
def pt0 : Pt := (0, 0, 0)
/-- What the B of a clue of a kind may be. -/
def bIn (k a b : Int) : Bool :=
  if k = 0 then inB b 0 (a - 1) else if k = 1 ∨ k = 3 then numB b else if k = 2 then inB b 0 20 else if k = 4 then inB b 0 9 else false
/-- What the A of a clue of a kind may be. -/
def aIn (k a : Int) : Bool := if k = 0 then inB a 2 12 else inB a 0 20
/-- Is it a clue? -/
def clB (q : Pt) : Bool := aIn q.1 q.2.1 && bIn q.1 q.2.1 q.2.2
theorem clB_kind {q : Pt} (h : clB q = true) : 0 ≤ q.1 ∧ q.1 ≤ 4 := by
  unfold clB bIn at h
  rw [Bool.and_eq_true] at h
  have h2 := h.2
  by_cases h0 : q.1 = 0
  · omega
  rw [if_neg h0] at h2
  by_cases h1 : q.1 = 1 ∨ q.1 = 3
  · omega
  rw [if_neg h1] at h2
  by_cases h3 : q.1 = 2
  · omega
  rw [if_neg h3] at h2
  by_cases h4 : q.1 = 4
  · omega
  rw [if_neg h4] at h2
  cases h2
theorem clB_a {q : Pt} (h : clB q = true) : 0 ≤ q.2.1 ∧ q.2.1 ≤ 20 ∧ (q.1 = 0 → 2 ≤ q.2.1) := by
  unfold clB aIn at h
  rw [Bool.and_eq_true] at h
  have h1 := h.1
  split at h1 <;> simp [inB] at h1 <;> omega
/-- A number without its sign. -/
def absI (n : Int) : Int := if -n < n then n else -n
/-- What a clue tells of a number: the value, and whether there is one. -/
def vlP (t p k a n : Int) : Int × Bool :=
  if k = 0 then (n % a, true)
  else if k = 2 then (((odd t p n a : Nat) : Int), (aft t p (nx t p) n a).2)
  else if k = 3 then ((pk true t p n a).1, (pk true t p n a).2.2)
  else if k = 4 then (absI (aft t p (nx t p) n a).1 % 10, (aft t p (nx t p) n a).2)
  else aft t p (nx t p) n a
/-- Does a number fit a clue? -/
def fitP (t p : Int) (q : Pt) (n : Int) : Bool := (vlP t p q.1 q.2.1 n).2 && decide ((vlP t p q.1 q.2.1 n).1 = q.2.2)
/-- Does it fit all? -/
def allF (t p : Int) (cs : List Pt) (n : Int) : Bool := cs.all fun q => fitP t p q n
def hidN : Nat := 60
/-- The numbers 1, 2, .. of which there are j that fit all. -/
def solK (t p : Int) (cs : List Pt) (j : Nat) : List Int := ((List.range j).map fun (i : Nat) => 1 + (i : Int)).filter (allF t p cs)
def solA (t p : Int) (cs : List Pt) : List Int := solK t p cs 60
/-- Is it a puzzle? -/
def pzB (t p : Int) (cs : List Pt) : Bool := goodB t p && decide (cs.length ≤ 6) && cs.all clB
theorem pzB_iff {t p : Int} {cs : List Pt} : pzB t p cs = true ↔ goodB t p = true ∧ cs.length ≤ 6 ∧ cs.all clB = true := by simp [pzB, and_assoc]
theorem solK_succ_yes {t p : Int} {cs : List Pt} {j : Nat} (h : allF t p cs (1 + (j : Int)) = true) : solK t p cs (j + 1) = solK t p cs j ++ [1 + (j : Int)] := by
  unfold solK
  rw [List.range_succ, List.map_append, List.filter_append]
  simp only [List.map_cons, List.map_nil, List.filter_cons, h, if_true, List.filter_nil]
theorem solK_succ_no {t p : Int} {cs : List Pt} {j : Nat} (h : allF t p cs (1 + (j : Int)) = false) : solK t p cs (j + 1) = solK t p cs j := by
  unfold solK
  rw [List.range_succ, List.map_append, List.filter_append]
  simp only [List.map_cons, List.map_nil, List.filter_cons, h, Bool.false_eq_true, if_false, List.filter_nil, List.append_nil]
theorem solK_len (t p : Int) (cs : List Pt) (j : Nat) : (solK t p cs j).length ≤ j := by
  unfold solK
  exact Nat.le_trans (List.length_filter_le _ _) (by simp)
theorem solA_len (t p : Int) (cs : List Pt) : (solA t p cs).length ≤ 60 := solK_len _ _ _ _
/-- What Solutions hands back. -/
def solR (t p : Int) (cs : List Pt) : List Int := if pzB t p cs = true then solA t p cs else []
theorem solR_len (t p : Int) (cs : List Pt) : (solR t p cs).length ≤ 1048576 := by
  unfold solR
  split
  · have := solA_len t p cs; omega
  · simp
/-- The first j clues. -/
theorem all_take_yes {f : Pt → Bool} {ps : List Pt} {j : Nat} (hj : j < ps.length) (h : (ps.take j).all f = true) (hx : f (ps.getD j pt0) = true) : (ps.take (j + 1)).all f = true := by
  rw [List.take_add_one, List.all_append, h, List.getElem?_eq_getElem hj]
  rw [List.getD_eq_getElem?_getD, List.getElem?_eq_getElem hj] at hx
  simpa using hx
theorem all_take_no {f : Pt → Bool} {ps : List Pt} {j : Nat} (hj : j < ps.length) (hx : f (ps.getD j pt0) = false) : ps.all f = false := by
  rw [List.getD_eq_getElem?_getD, List.getElem?_eq_getElem hj] at hx
  rw [List.all_eq_false]
  exact ⟨_, List.getElem_mem hj, by simpa using hx⟩
theorem all_at {f : Pt → Bool} {ps : List Pt} (h : ps.all f = true) {r : Nat} (hr : r < ps.length) : f (ps.getD r pt0) = true := by
  rw [List.all_eq_true] at h
  rw [List.getD_eq_getElem?_getD, List.getElem?_eq_getElem hr]
  exact h _ (List.getElem_mem hr)
end Go.Proofs.YtgobjobppajkbaaDoor
