/-
  SLICES OF THE CALL's OWN.
  A SLICE OF STRINGS OF THE CALL's OWN.
-/
import Derived.Test.YtnhpoefhcngoaaaDoorLeaf
import Derived.Laws.AppendOwn
import Derived.Laws.OwnMore
import Derived.WalkLawsBesides
namespace Go.Proofs.YtnhpoefhcngoaaaDoor
open Go.RowKit
set_option linter.unusedVariables false

/-- A slice of the call's own, of integers: xs. -/
def IntsAt (w : World) (base : Nat) (v : Value) (xs : List Int) : Prop := w.ownsRow base 3 1 v xs.length (xs.map (Value.int .i64))
theorem ownsRow_kept {B : Nat} {e : TypeId} {k : Nat} {v : Value} {n : Nat} {xs : List Value} {w w' : World} (h : w.ownsRow B e k v n xs) (hb : Below w.heap.size w w') : w'.ownsRow B e k v n xs :=
  h.kept (row := none) ⟨hb.os, hb.tape, hb.output, hb.size, fun k hk _ => hb.block k hk⟩ (by cases hv : v.ownBlock <;> simp)
theorem ownsRow_base {B B' : Nat} {e : TypeId} {k : Nat} {v : Value} {n : Nat} {xs : List Value} {w : World} (h : w.ownsRow B e k v n xs) (hb : B' ≤ B) : w.ownsRow B' e k v n xs := by
  refine ⟨h.1, ?_⟩
  rcases h.2 with h2 | ⟨g, cap, cur, h1, h2, h3⟩
  · exact .inl h2
  · exact .inr ⟨g, cap, cur, h1, by omega, h3⟩

theorem new_cell (w : World) (x : Value) (T : TypeId) {j : Nat} {u : Value} (h : [x][j]? = some u) : (w.alloc (.cells #[x] T)).cell? ((⟨w.heap.size, 0, none⟩ : Addr).add j) = some u := by
  cases j with
  | zero => simp at h; subst h; simp [Addr.add]
  | succ j => simp at h

theorem info3 : (Tryd.prog.info? 3).map (fun i => (i.zero, i.size, i.bytes)) = some (some (.int .i64 0), 1, 8) := by kernel_rfl

/-- What a function that makes a list of integers hands back. -/
def RetInts (xs : List Int) (ok : Bool) (w : World) (e : Ending) (w' : World) : Prop :=
  ∃ v, e = .returned (.tuple #[v, .bool ok]) ∧ IntsAt w' w.heap.size v xs ∧ Below w.heap.size w w'
theorem intsAt_nil (w : World) (B : Nat) : IntsAt w B (.slice none 0 0) [] := ⟨rfl, .inl ⟨rfl, rfl⟩⟩
end Go.Proofs.YtnhpoefhcngoaaaDoor

namespace Go.Proofs.YtnhpoefhcngoaaaDoor
open Go.RowKit
set_option linter.unusedVariables false

/-- A slice of the call's own, of strings. -/
def StrsAt (w : World) (base : Nat) (v : Value) (xs : List ByteArray) : Prop := w.ownsRow base 9 1 v xs.length (xs.map Value.string)
/-- What a function that makes a list of strings hands back. -/
def RetStrs (xs : List ByteArray) (ok : Bool) (w : World) (e : Ending) (w' : World) : Prop :=
  ∃ v, e = .returned (.tuple #[v, .bool ok]) ∧ StrsAt w' w.heap.size v xs ∧ Below w.heap.size w w'
def StrRow (w : World) (g : Nat) (xs : List ByteArray) : Prop :=
  ∀ j, j < xs.length → w.cell? ⟨g, j, none⟩ = some (.string (xs.getD j ⟨#[]⟩)) ∧ w.frozen? ⟨g, j, none⟩ = false
theorem StrRow.kept {w w' : World} {g : Nat} {xs : List ByteArray} (h : StrRow w g xs) (hg : g < w.heap.size) (hb : Below w.heap.size w w') : StrRow w' g xs :=
  fun j hj => ⟨(hb.cell (p := ⟨g, j, none⟩) hg).trans (h j hj).1, (hb.frozen (p := ⟨g, j, none⟩) hg).trans (h j hj).2⟩
theorem StrsAt.cases {w : World} {B : Nat} {v : Value} {xs : List ByteArray} (h : StrsAt w B v xs) :
    (v = .slice none 0 0 ∧ xs = []) ∨ ∃ g cap, v = .slice (some ⟨g, 0, none⟩) xs.length cap ∧ B ≤ g ∧ g < w.heap.size ∧ xs.length ≤ maxLen ∧ StrRow w g xs := by
  rcases h.2 with ⟨rfl, h0⟩ | ⟨g, cap, cur, rfl, hB, hg, hn, hc, _⟩
  · exact .inl ⟨rfl, List.eq_nil_of_length_eq_zero h0⟩
  · refine .inr ⟨g, cap, rfl, hB, (Array.getElem?_eq_some_iff.1 hg).1, by omega, fun j hj => ⟨?_, World.ownsRow.frozenAt h j⟩⟩
    have := World.ownsRow.cellAt h j (by omega)
    rw [List.getElem?_map, List.getElem?_eq_getElem hj] at this
    rw [this]
    simp [List.getD_eq_getElem?_getD, hj]
def StrsIn (w : World) (v : Value) (xs : List ByteArray) : Prop :=
  ∃ a cap, v = .slice a xs.length cap ∧ (xs ≠ [] → ∃ g, a = some ⟨g, 0, none⟩ ∧ g < w.heap.size ∧ StrRow w g xs)
theorem StrsAt.isIn {w : World} {B : Nat} {v : Value} {xs : List ByteArray} (h : StrsAt w B v xs) : StrsIn w v xs := by
  rcases h.cases with ⟨rfl, rfl⟩ | ⟨g, cap, rfl, _, hg, _, hr⟩
  · exact ⟨none, 0, rfl, fun h => (h rfl).elim⟩
  · exact ⟨_, cap, rfl, fun _ => ⟨g, rfl, hg, hr⟩⟩
theorem StrsIn.kept {w w' : World} {v : Value} {xs : List ByteArray} (h : StrsIn w v xs) (hb : Below w.heap.size w w') : StrsIn w' v xs := by
  obtain ⟨a, cap, rfl, hx⟩ := h
  exact ⟨a, cap, rfl, fun hn => by obtain ⟨g, rfl, hg, hr⟩ := hx hn; exact ⟨g, rfl, Nat.lt_of_lt_of_le hg hb.size, hr.kept hg hb⟩⟩
theorem StrsIn.grown {w w' : World} {v : Value} {xs : List ByteArray} {row : Option Nat} (h : StrsIn w v xs) (hg : w.grownBy w' row) (hne : v.ownBlock = none ∨ v.ownBlock ≠ row) : StrsIn w' v xs := by
  obtain ⟨a, cap, rfl, hx⟩ := h
  refine ⟨a, cap, rfl, fun hn => ?_⟩
  obtain ⟨g, rfl, hlt, hr⟩ := hx hn
  have hne' : some g ≠ row := by
    rcases hne with h | h
    · simp [Value.ownBlock] at h
    · simpa [Value.ownBlock] using h
  have hh := hg.block g hlt hne'
  exact ⟨g, rfl, Nat.lt_of_lt_of_le hlt hg.size, fun j hj => ⟨(World.cell?_of_block (a := ⟨g, j, none⟩) hh).trans (hr j hj).1, (World.frozen?_of_block (a := ⟨g, j, none⟩) hh).trans (hr j hj).2⟩⟩

end Go.Proofs.YtnhpoefhcngoaaaDoor
