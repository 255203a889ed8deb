/-
  THE TEXT OF AN OTHER MAP.
-/
import Derived.Test.YtgobjobppajkbaaDoorDgt
import Derived.Test.YtgobjobppajkbaaDoorOmM
namespace Go.Proofs.YtgobjobppajkbaaDoor
open Go.RowKit
set_option linter.unusedVariables false

/-- The digits of a number of at least 0. -/
def dgO (x : Int) : List UInt8 := Lib.decDigits x.toNat
theorem dgO_len {x : Int} (h : x ≤ 20) : (dgO x).length ≤ 2 := dd_len 1 x.toNat (by omega)
/-- The size of a number. -/
def absO (p : Int) : Int := if p < 0 then -p else p
def sgO (p : Int) : List UInt8 := if p < 0 then [45] else [43]
/-- The text of a part. -/
def ptX (q : Pt) : List UInt8 := dgO q.1 ++ [110] ++ sgO q.2.1 ++ dgO (absO q.2.1) ++ [47] ++ dgO q.2.2
theorem ptX_len {q : Pt} (h : ptIn q = true) : (ptX q).length ≤ 9 := by
  obtain ⟨a, b, c, d, e, f⟩ := ptIn_iff.1 h
  have h1 := dgO_len b
  have h2 := dgO_len f
  have h3 : (dgO (absO q.2.1)).length ≤ 2 := dgO_len (by unfold absO; split <;> omega)
  have h4 : (sgO q.2.1).length = 1 := by unfold sgO; split <;> rfl
  simp only [ptX, List.length_append, List.length_cons, List.length_nil]
  omega
/-- The texts of the first j parts, with ; between them. -/
def otT (ps : List Pt) (j : Nat) : List UInt8 := Lib.join ((List.range j).map fun i => ptX (ps.getD i pt0)) [59]
/-- What stands ahead of part number j. -/
def otP (ps : List Pt) (j : Nat) : List UInt8 := if j = 0 then [] else otT ps j ++ [59]
theorem otT_zero (ps : List Pt) : otT ps 0 = [] := rfl
theorem otP_next (ps : List Pt) (j : Nat) : otT ps (j + 1) = otP ps j ++ ptX (ps.getD j pt0) := by
  unfold otP
  rcases Nat.eq_zero_or_pos j with rfl | h
  · rw [if_pos rfl]
    simp [otT, List.range_succ, Lib.join_one]
  · rw [if_neg (by omega)]
    unfold otT
    rw [List.range_succ, List.map_append, List.map_singleton, join_snoc _ _ _ (by intro e; have := congrArg List.length e; simp at this; omega)]
theorem otT_len {ps : List Pt} {K : Nat} (h : ∀ i, i < K → ptIn (ps.getD i pt0) = true) : ∀ j, j ≤ K → (otT ps j).length ≤ 10 * j := by
  intro j
  induction j with
  | zero => intro _; simp [otT_zero]
  | succ j ih =>
    intro hj
    have h1 := ih (by omega)
    have h2 := ptX_len (h j (by omega))
    rw [otP_next, List.length_append]
    generalize (ptX (ps.getD j pt0)).length = L at *
    unfold otP
    split
    · simp only [List.length_nil]; omega
    · simp only [List.length_append, List.length_cons, List.length_nil]; omega
/-- What OtherText tells. -/
def otX (ps : List Pt) : ByteArray := if omB ps = true then byt (otT ps ps.length) else byt []
end Go.Proofs.YtgobjobppajkbaaDoor
