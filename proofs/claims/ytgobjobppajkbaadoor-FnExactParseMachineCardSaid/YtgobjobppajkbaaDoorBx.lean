/-
  A BOX OF A LAW THAT HOLDS A MACHINE.
-/
import Derived.Test.YtgobjobppajkbaaDoorArgM
namespace Go.Proofs.YtgobjobppajkbaaDoor
open Go.RowKit
set_option linter.unusedVariables false

/-- A block whose first two cells are x, y. -/
def Bx (w : World) (b : Nat) (x y : Value) : Prop := w.cell? ⟨b, 0, none⟩ = some x ∧ w.cell? ⟨b, 1, none⟩ = some y ∧ b < w.heap.size
theorem Bx.of {w w' : World} {b : Nat} {x y : Value} (h : Bx w b x y) (hs : w.heap.size ≤ w'.heap.size) (he : w'.heap[b]? = w.heap[b]?) : Bx w' b x y :=
  ⟨(World.cell?_of_block (a := ⟨b, 0, none⟩) he).trans h.1, (World.cell?_of_block (a := ⟨b, 1, none⟩) he).trans h.2.1, Nat.lt_of_lt_of_le h.2.2 hs⟩
theorem Bx.kept {w w' : World} {b : Nat} {x y : Value} (h : Bx w b x y) (hb : Below w.heap.size w w') : Bx w' b x y := h.of hb.size (hb.block b h.2.2)
theorem Bx.touch {w w' : World} {lo hi b : Nat} {x y : Value} (h : Bx w b x y) (ht : Touch lo hi w w') (hd : b < lo ∨ hi ≤ b) : Bx w' b x y := h.of ht.size (ht.block b h.2.2 hd)
theorem Bx.new (w : World) (x y : Value) (T : TypeId) : Bx (w.alloc (.cells #[x, y] T)) w.heap.size x y := ⟨by go_simp, by go_simp, by simp⟩
theorem below_alloc (w : World) (X : Obj) : Below w.heap.size w (w.alloc X) := (Below.refl w.heap.size w).alloc (Nat.le_refl _) X
theorem Bx.grow {w : World} {b : Nat} {x y : Value} (h : Bx w b x y) (X : Obj) : Bx (w.alloc X) b x y := h.kept (below_alloc w X)
theorem MacIn.agg {w : World} {v1 v2 : Value} {ns ds : List Int} (h1 : IntsIn w v1 ns) (h2 : IntsIn w v2 ds) : MacIn w (.agg #[v1, v2]) ns ds := ⟨v1, v2, rfl, h1, h2⟩
end Go.Proofs.YtgobjobppajkbaaDoor
