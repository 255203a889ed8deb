/-
  'WordOfResidue' of the program, 'WordOf' of both.
-/
import Derived.Test.YtbepnhgekbcbjaaDoorWordI
import Derived.Outline
import Derived.Deep.RegionWith
namespace Go.Proofs.YtbepnhgekbcbjaaDoor
open Go.RowKit
set_option linter.unusedVariables false

theorem tab_drew {w : World} (h : Tab w) : Tab w.drew := h
theorem info5w : (Tryd.prog.info? 5).map (fun i => (i.zero, i.size, i.bytes)) = some (some (.int .u8 0), 1, 1) := by kernel_rfl
/-- A row that was just made holds zeros. -/
theorem made_zero_w (z : Value) (n : Nat) {j : Nat} (h : j < n * 1) (hz : z.cells = #[z] := by rfl) : ((madeCells z.cells (n * 1)).toList)[j]? = some z := by
  rw [hz]
  simp [madeCells]
  exact ⟨j, List.getElem?_range (by omega), by rw [Nat.mod_one]; rfl⟩
theorem Touch.cell {lo hi : Nat} {A B : World} (h : Touch lo hi A B) {b o : Nat} (hb : b < A.heap.size) (hr : b < lo ∨ hi ≤ b) : B.cell? ⟨b, o, none⟩ = A.cell? ⟨b, o, none⟩ := World.cell?_of_block (a := ⟨b, o, none⟩) (h.block b hb hr)
theorem Touch.frozen {lo hi : Nat} {A B : World} (h : Touch lo hi A B) {b o : Nat} (hb : b < A.heap.size) (hr : b < lo ∨ hi ≤ b) : B.frozen? ⟨b, o, none⟩ = A.frozen? ⟨b, o, none⟩ := World.frozen?_of_block (a := ⟨b, o, none⟩) (h.block b hb hr)

theorem WalkAt.set {W : World} {b : Nat} {t p v : Int} (h : WalkAt W b t p v) {g o : Nat} {u : Value} (hne : b ≠ g) : WalkAt (W.setCell ⟨g, o, none⟩ u) b t p v := by
  have hc : ∀ o', (W.setCell ⟨g, o, none⟩ u).cell? ⟨b, o', none⟩ = W.cell? ⟨b, o', none⟩ := fun o' => World.cell?_setCell_other _ _ _ _ (by simp; try omega)
  exact ⟨(hc 0).trans h.c0, (hc 1).trans h.c1, (hc 2).trans h.c2, (World.frozen?_setCell ..).trans h.f0, (World.frozen?_setCell ..).trans h.f1, (World.frozen?_setCell ..).trans h.f2, by simpa using h.lt⟩

/-- Are there a map, a number and a length? -/
def askL (t p n k : Int) : Bool := goodB t p && numB n && inB k 0 15
/-- What WordOf comes to. -/
def wof (t p n k : Int) : ByteArray := if askL t p n k = true then wby (wrd t p n k.toNat) else wby []

end Go.Proofs.YtbepnhgekbcbjaaDoor
