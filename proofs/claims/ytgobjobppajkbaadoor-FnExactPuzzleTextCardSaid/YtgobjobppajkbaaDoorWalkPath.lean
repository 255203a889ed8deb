/-
  'path' of the program: the path of so many steps of a walk.
-/
import Derived.Test.YtgobjobppajkbaaDoorAlong
import Derived.Test.YtgobjobppajkbaaDoorPath
import Derived.Test.YtgobjobppajkbaaDoorAft
namespace Go.Proofs.YtgobjobppajkbaaDoor
open Go.RowKit Go.Shelf
attribute [local go_sem] Oper.semAt_some
set_option linter.unusedVariables false

/-- The cells of a call of 'path': its argument 'steps', its two results, the path so far. -/
def PathCells (B : Nat) (k : Int) (rv ov pv : Value) (W : World) : Prop :=
  W.cell? ⟨B + 1, 0, none⟩ = some (.int .i64 k) ∧ W.cell? ⟨B + 1 + 1, 0, none⟩ = some rv ∧ W.frozen? ⟨B + 1 + 1, 0, none⟩ = false ∧
  W.cell? ⟨B + 1 + 1 + 1, 0, none⟩ = some ov ∧ W.frozen? ⟨B + 1 + 1 + 1, 0, none⟩ = false ∧ W.cell? ⟨B + 1 + 1 + 1 + 1, 0, none⟩ = some pv ∧ W.frozen? ⟨B + 1 + 1 + 1 + 1, 0, none⟩ = false ∧ B + 7 ≤ W.heap.size
theorem PathCells.below {B : Nat} {k : Int} {rv ov pv : Value} {A C : World} (h : PathCells B k rv ov pv A) {N : Nat} (hN : B + 5 ≤ N) (hb : Below N A C) : PathCells B k rv ov pv C := by
  obtain ⟨h1, h2, h3, h4, h5, h6, h7, h8⟩ := h
  refine ⟨(hb.cell (p := ⟨B + 1, 0, none⟩) ?_).trans h1, (hb.cell (p := ⟨B + 1 + 1, 0, none⟩) ?_).trans h2, (hb.frozen (p := ⟨B + 1 + 1, 0, none⟩) ?_).trans h3, (hb.cell (p := ⟨B + 1 + 1 + 1, 0, none⟩) ?_).trans h4, (hb.frozen (p := ⟨B + 1 + 1 + 1, 0, none⟩) ?_).trans h5,
    (hb.cell (p := ⟨B + 1 + 1 + 1 + 1, 0, none⟩) ?_).trans h6, (hb.frozen (p := ⟨B + 1 + 1 + 1 + 1, 0, none⟩) ?_).trans h7, Nat.le_trans h8 hb.size⟩ <;> (dsimp only; omega)
theorem ownsRow_touch {B lo hi : Nat} {e : TypeId} {s : Nat} {v : Value} {n : Nat} {xs : List Value} {A C : World} (h : A.ownsRow B e s v n xs) (ht : Touch lo hi A C) (hh : hi ≤ B) : C.ownsRow B e s v n xs := by
  refine ⟨h.1, ?_⟩
  rcases h.2 with h2 | ⟨g, cap, cur, h1, h2, h3, h4⟩
  · exact .inl h2
  · exact .inr ⟨g, cap, cur, h1, h2, (ht.block g (Array.getElem?_eq_some_iff.1 h3).1 (.inr (by omega))).trans h3, h4⟩
/-- The numbers that have come, as values. -/
def vals (pre : List (Int × Int)) : List Value := pre.map fun x => .int .i64 x.2

theorem vals_snoc (pre : List (Int × Int)) (x : Int × Int) : vals (pre ++ [x]) = vals pre ++ [.int .i64 x.2] := by simp [vals]
/-- The path of k steps, if there is one. -/
def pathIf (t p n k : Int) : List Int := if (aft t p (nx t p) n k).2 = true then pathL (nx t p) n k.toNat else []

end Go.Proofs.YtgobjobppajkbaaDoor
