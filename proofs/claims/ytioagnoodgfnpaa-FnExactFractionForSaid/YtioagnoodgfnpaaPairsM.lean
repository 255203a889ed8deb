/-
  'eqIntSS', 'markIntSS', 'heldIntSS' of the laws at rows of pairs.
-/
import Derived.Test.YtioagnoodgfnpaaPairsL
namespace Go.Proofs.Ytioagnoodgfnpaa
open Go.RowKit
set_option linter.unusedVariables false

theorem PairsAt.at {w : World} {B : Nat} {v : Value} {rs : List (Int × Int)} (h : PairsAt w B v rs) : ∃ a cap, v = .slice a rs.length cap ∧ ∀ k, k < rs.length → ∃ g b, a = some ⟨g, 0, none⟩ ∧ B ≤ g ∧ g < w.heap.size ∧ w.cell? ⟨g, k, none⟩ = some (slP b) ∧ B ≤ b ∧ b < w.heap.size ∧ PairAt w b (rs.getD k (0, 0)) := by
  obtain ⟨bs, h1, h2, h3, h4⟩ := h
  by_cases hn : 0 < rs.length
  · obtain ⟨g, cap, rfl, a1, a2, _, _, a3⟩ := row_one h1 hn
    refine ⟨_, cap, rfl, fun k hk => ?_⟩
    have hb : bs[k]? = some (bs[k]'(by omega)) := List.getElem?_eq_getElem _
    obtain ⟨b1, b2, b3⟩ := h4 k _ hb
    exact ⟨g, _, rfl, a1, a2, a3 k _ (by rw [List.getElem?_map, hb]; rfl), b1, b2, b3⟩
  · have e : rs.length = 0 := by omega
    rcases h1.2 with ⟨rfl, _⟩ | ⟨g, cap, cur, rfl, _⟩
    · exact ⟨none, 0, by rw [e], fun k hk => by omega⟩
    · exact ⟨_, cap, rfl, fun k hk => by omega⟩

theorem Touch.grown1 {b : Nat} {w w' : World} (h : Touch b (b + 1) w w') : w.grownBy w' (some b) := ⟨h.os, h.tape, h.output, h.size, fun k hk hne => h.block k hk (by have : k ≠ b := fun e => hne (by rw [e]); omega)⟩
/-- The numbers 1, 2, .. in pairs. -/
def markP (n : Nat) : List (Int × Int) := (List.range n).map fun (i : Nat) => (2 * (i : Int) + 1, 2 * (i : Int) + 2)
theorem markP_length (n : Nat) : (markP n).length = n := by simp [markP]
theorem markP_at {n k : Nat} (h : k < n) : (markP n).getD k (0, 0) = (2 * (k : Int) + 1, 2 * (k : Int) + 2) := by
  simp [markP, List.getD_eq_getElem?_getD, h]

end Go.Proofs.Ytioagnoodgfnpaa
