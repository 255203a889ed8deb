/-
  THE LEVELS OF A ROOT, the first of them, in a row; a row's cells.
-/
import Derived.Test.YtpfclanblcngfaaTreeN
import Derived.Test.YtpfclanblcngfaaIntRows
namespace Go.Proofs.Ytpfclanblcngfaa
open Go.RowKit
set_option linter.unusedVariables false

theorem row_cells {w : World} {B : Nat} {e : TypeId} {v : Value} {n : Nat} {xs : List Value} (h : w.ownsRow B e 1 v n xs) (hn : 0 < n) : ∃ g cap, v = .slice (some ⟨g, 0, none⟩) n cap ∧ B ≤ g ∧ g < w.heap.size ∧ n ≤ cap ∧ cap ≤ maxLen ∧ ∀ j x, xs[j]? = some x → w.cell? ⟨g, j, none⟩ = some x := by
  have hl := h.1
  rcases h.2 with ⟨_, h0⟩ | ⟨g, cap, cur, rfl, hB, hg, hc, hm, _⟩
  · omega
  · refine ⟨g, cap, rfl, hB, (Array.getElem?_eq_some_iff.1 hg).1, hc, hm, fun j x hx => ?_⟩
    have hj : j < xs.length := (List.getElem?_eq_some_iff.1 hx).1
    rw [World.ownsRow.cellAt h j (by omega), hx]
/-- The levels 0 to k. -/
def lvA (short : Bool) (t p r : Int) (k : Nat) : List (List Int) := (List.range (k + 1)).map fun j => (levL short t p r j).getD []
theorem lvA_succ (short : Bool) (t p r : Int) (k : Nat) : lvA short t p r (k + 1) = lvA short t p r k ++ [(levL short t p r (k + 1)).getD []] := by
  simp [lvA, List.range_succ]
theorem lvA_length (short : Bool) (t p r : Int) (k : Nat) : (lvA short t p r k).length = k + 1 := by simp [lvA]
theorem lvA_at (short : Bool) (t p r : Int) {j k : Nat} (h : j ≤ k) : (lvA short t p r k).getD j [] = (levL short t p r j).getD [] := by
  rw [List.getD_eq_getElem?_getD, lvA, List.getElem?_map, List.getElem?_range (by omega)]; rfl
theorem levL_lower {short : Bool} {t p r : Int} {j k : Nat} (hj : j ≤ k) {xs : List Int} (h : levL short t p r k = some xs) : ∃ ys, levL short t p r j = some ys := by
  cases h2 : levL short t p r j with
  | some ys => exact ⟨ys, rfl⟩
  | none => rw [levL_less hj h2] at h; cases h
theorem fm_len (short : Bool) (t p : Int) : ∀ xs : List Int, (xs.flatMap (befB short t p)).length ≤ 2 * xs.length
  | [] => Nat.le_refl _
  | x :: xs => by
    have h1 := bef_len short t p x
    have h2 := fm_len short t p xs
    rw [List.flatMap_cons, List.length_append, List.length_cons]
    omega
end Go.Proofs.Ytpfclanblcngfaa
