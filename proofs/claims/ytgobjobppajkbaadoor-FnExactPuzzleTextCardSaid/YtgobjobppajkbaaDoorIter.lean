/-
  THE ITERATOR OF A WALK, BY STEPS: it gives 0, 1, 2, .. and the number behind so many steps, till 1000, or till what is no number.
-/
import Derived.Test.YtgobjobppajkbaaDoorLeafB
import Derived.Test.YtgobjobppajkbaaDoorRange
import Derived.OwnWalkIn
import Derived.TacticsInMore
import Derived.RegionIn
import Derived.LoopNIn
import Derived.LoopIn
import Derived.RangeFuncCalls
import Derived.RangeFuncBound
import Derived.RangeFuncBox
import Derived.Shelf.RegionOpen
namespace Go.Proofs.YtgobjobppajkbaaDoor
open Go.RowKit Go.Shelf
attribute [local go_sem] Oper.semAt_some
set_option linter.unusedVariables false

/-- What a closure of the iterator has captured: the walk, and the kind of step. -/
def CapOf (bw bs : Nat) (t p n : Int) (fs : Nat) (W : World) : Prop :=
  W.cell? ⟨bw, 0, none⟩ = some (.int .i64 t) ∧ W.cell? ⟨bw, 1, none⟩ = some (.int .i64 p) ∧ W.cell? ⟨bw, 2, none⟩ = some (.int .i64 n) ∧ W.cell? ⟨bs, 0, none⟩ = some (.func (.func fs) #[] #[]) ∧ bw < W.heap.size ∧ bs < W.heap.size
theorem CapOf.below {bw bs : Nat} {t p n : Int} {fs B : Nat} {A C : World} (h : CapOf bw bs t p n fs A) (hw : bw < B) (hs : bs < B) (hb : Below B A C) : CapOf bw bs t p n fs C :=
  ⟨(hb.cell (p := ⟨bw, 0, none⟩) hw).trans h.1, (hb.cell (p := ⟨bw, 1, none⟩) hw).trans h.2.1, (hb.cell (p := ⟨bw, 2, none⟩) hw).trans h.2.2.1, (hb.cell (p := ⟨bs, 0, none⟩) hs).trans h.2.2.2.1, by have := hb.size; have := h.2.2.2.2.1; omega, by have := hb.size; have := h.2.2.2.2.2; omega⟩

/-- The iterator's own block: the walk as it is now. -/
def Box (W : World) (b : Nat) (t p v : Int) : Prop :=
  W.cell? ⟨b, 0, none⟩ = some (.int .i64 t) ∧ W.cell? ⟨b, 1, none⟩ = some (.int .i64 p) ∧ W.cell? ⟨b, 2, none⟩ = some (.int .i64 v) ∧
  W.frozen? ⟨b, 0, none⟩ = false ∧ W.frozen? ⟨b, 1, none⟩ = false ∧ W.frozen? ⟨b, 2, none⟩ = false
theorem Box.same {W W' : World} {b : Nat} {t p v : Int} (h : Box W b t p v) (hb : W'.heap[b]? = W.heap[b]?) : Box W' b t p v :=
  ⟨(World.cell?_of_block (w := W) (a := ⟨b, 0, none⟩) hb).trans h.1, (World.cell?_of_block (w := W) (a := ⟨b, 1, none⟩) hb).trans h.2.1, (World.cell?_of_block (w := W) (a := ⟨b, 2, none⟩) hb).trans h.2.2.1,
   (World.frozen?_of_block (w := W) (a := ⟨b, 0, none⟩) hb).trans h.2.2.2.1, (World.frozen?_of_block (w := W) (a := ⟨b, 1, none⟩) hb).trans h.2.2.2.2.1, (World.frozen?_of_block (w := W) (a := ⟨b, 2, none⟩) hb).trans h.2.2.2.2.2⟩

end Go.Proofs.YtgobjobppajkbaaDoor
