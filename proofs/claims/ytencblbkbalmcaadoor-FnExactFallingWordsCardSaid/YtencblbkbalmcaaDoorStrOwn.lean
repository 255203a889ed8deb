/-
  A SLICE OF STRINGS OF THE CALL's OWN.
-/
import Derived.Test.YtencblbkbalmcaaDoorOwn
import Derived.WalkLawsBesides
namespace Go.Proofs.YtencblbkbalmcaaDoor
open Go.RowKit
set_option linter.unusedVariables false

/-- A slice of the call's own, of strings. -/
def StrsAt (w : World) (base : Nat) (v : Value) (xs : List ByteArray) : Prop := w.ownsRow base 9 1 v xs.length (xs.map Value.string)
/-- What a function that makes a list of strings hands back. -/
def RetStrs (xs : List ByteArray) (ok : Bool) (w : World) (e : Ending) (w' : World) : Prop :=
  ∃ v, e = .returned (.tuple #[v, .bool ok]) ∧ StrsAt w' w.heap.size v xs ∧ Below w.heap.size w w'
def StrRow (w : World) (g : Nat) (xs : List ByteArray) : Prop :=
  ∀ j, j < xs.length → w.cell? ⟨g, j, none⟩ = some (.string (xs.getD j ⟨#[]⟩)) ∧ w.frozen? ⟨g, j, none⟩ = false
theorem StrRow.kept {w w' : World} {g : Nat} {xs : List ByteArray} (h : StrRow w g xs) (hg : g < w.heap.size) (hb : Below w.heap.size w w') : StrRow w' g xs :=
  fun j hj => ⟨(hb.cell (p := ⟨g, j, none⟩) hg).trans (h j hj).1, (hb.frozen (p := ⟨g, j, none⟩) hg).trans (h j hj).2⟩
theorem StrsAt.cases {w : World} {B : Nat} {v : Value} {xs : List ByteArray} (h : StrsAt w B v xs) :
    (v = .slice none 0 0 ∧ xs = []) ∨ ∃ g cap, v = .slice (some ⟨g, 0, none⟩) xs.length cap ∧ B ≤ g ∧ g < w.heap.size ∧ xs.length ≤ maxLen ∧ StrRow w g xs := by
  rcases h.2 with ⟨rfl, h0⟩ | ⟨g, cap, cur, rfl, hB, hg, hn, hc, _⟩
  · exact .inl ⟨rfl, List.eq_nil_of_length_eq_zero h0⟩
  · refine .inr ⟨g, cap, rfl, hB, (Array.getElem?_eq_some_iff.1 hg).1, by omega, fun j hj => ⟨?_, World.ownsRow.frozenAt h j⟩⟩
    have := World.ownsRow.cellAt h j (by omega)
    rw [List.getElem?_map, List.getElem?_eq_getElem hj] at this
    rw [this]
    simp [List.getD_eq_getElem?_getD, hj]
def StrsIn (w : World) (v : Value) (xs : List ByteArray) : Prop :=
  ∃ a cap, v = .slice a xs.length cap ∧ (xs ≠ [] → ∃ g, a = some ⟨g, 0, none⟩ ∧ g < w.heap.size ∧ StrRow w g xs)
theorem StrsAt.isIn {w : World} {B : Nat} {v : Value} {xs : List ByteArray} (h : StrsAt w B v xs) : StrsIn w v xs := by
  rcases h.cases with ⟨rfl, rfl⟩ | ⟨g, cap, rfl, _, hg, _, hr⟩
  · exact ⟨none, 0, rfl, fun h => (h rfl).elim⟩
  · exact ⟨_, cap, rfl, fun _ => ⟨g, rfl, hg, hr⟩⟩
theorem StrsIn.kept {w w' : World} {v : Value} {xs : List ByteArray} (h : StrsIn w v xs) (hb : Below w.heap.size w w') : StrsIn w' v xs := by
  obtain ⟨a, cap, rfl, hx⟩ := h
  exact ⟨a, cap, rfl, fun hn => by obtain ⟨g, rfl, hg, hr⟩ := hx hn; exact ⟨g, rfl, Nat.lt_of_lt_of_le hg hb.size, hr.kept hg hb⟩⟩
theorem StrsIn.grown {w w' : World} {v : Value} {xs : List ByteArray} {row : Option Nat} (h : StrsIn w v xs) (hg : w.grownBy w' row) (hne : v.ownBlock = none ∨ v.ownBlock ≠ row) : StrsIn w' v xs := by
  obtain ⟨a, cap, rfl, hx⟩ := h
  refine ⟨a, cap, rfl, fun hn => ?_⟩
  obtain ⟨g, rfl, hlt, hr⟩ := hx hn
  have hne' : some g ≠ row := by
    rcases hne with h | h
    · simp [Value.ownBlock] at h
    · simpa [Value.ownBlock] using h
  have hh := hg.block g hlt hne'
  exact ⟨g, rfl, Nat.lt_of_lt_of_le hlt hg.size, fun j hj => ⟨(World.cell?_of_block (a := ⟨g, j, none⟩) hh).trans (hr j hj).1, (World.frozen?_of_block (a := ⟨g, j, none⟩) hh).trans (hr j hj).2⟩⟩

end Go.Proofs.YtencblbkbalmcaaDoor
