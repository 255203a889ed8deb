/-
  WHAT A CLOSURE OF 'Other.along' HAS CAPTURED.
-/
import Derived.Test.YtbhmplccjaijjaaOtI
import Derived.Test.YtbhmplccjaijjaaRangeN
import Derived.OwnWalkIn
import Derived.TacticsInMore
import Derived.RegionIn
import Derived.LoopNIn
import Derived.LoopIn
import Derived.RangeFuncCalls
import Derived.RangeFuncBound
import Derived.RangeFuncBox
import Derived.Shelf.RegionOpen
namespace Go.Proofs.Ytbhmplccjaijjaa
open Go.RowKit
set_option linter.unusedVariables false

/-- The boxes: the other map, the number, the kind of step; the map's parts lie below N0. -/
def CapO (bo bn bs N0 : Nat) (ps : List Pt) (a : Option Addr) (c : Nat) (n : Int) (fs : Nat) (W : World) : Prop :=
  W.cell? ⟨bo, 0, none⟩ = some (.slice a ps.length c) ∧ W.cell? ⟨bn, 0, none⟩ = some (.int .i64 n) ∧ W.cell? ⟨bs, 0, none⟩ = some (.func (.func fs) #[] #[]) ∧ bo < W.heap.size ∧ bn < W.heap.size ∧ bs < W.heap.size ∧ PRow W 0 N0 a ps ∧ N0 ≤ W.heap.size
theorem CapO.below {bo bn bs N0 N : Nat} {ps : List Pt} {a : Option Addr} {c : Nat} {n : Int} {fs : Nat} {A C : World} (h : CapO bo bn bs N0 ps a c n fs A) (h1 : bo < N) (h2 : bn < N) (h3 : bs < N) (h4 : N0 ≤ N) (hb : Below N A C) : CapO bo bn bs N0 ps a c n fs C :=
  ⟨(hb.cell (p := ⟨bo, 0, none⟩) h1).trans h.1, (hb.cell (p := ⟨bn, 0, none⟩) h2).trans h.2.1, (hb.cell (p := ⟨bs, 0, none⟩) h3).trans h.2.2.1, by have := hb.size; have := h.2.2.2.1; omega, by have := hb.size; have := h.2.2.2.2.1; omega, by have := hb.size; have := h.2.2.2.2.2.1; omega,
    h.2.2.2.2.2.2.1.of (fun g _ hg => hb.block g (by omega)), Nat.le_trans h.2.2.2.2.2.2.2 hb.size⟩
theorem CapO.keep {bo bn bs N0 : Nat} {ps : List Pt} {a : Option Addr} {c : Nat} {n : Int} {fs : Nat} {A C : World} (h : CapO bo bn bs N0 ps a c n fs A) (hb : Below A.heap.size A C) : CapO bo bn bs N0 ps a c n fs C :=
  h.below h.2.2.2.1 h.2.2.2.2.1 h.2.2.2.2.2.1 h.2.2.2.2.2.2.2 hb
theorem CapO.of {bo bn bs N0 : Nat} {ps : List Pt} {a : Option Addr} {c : Nat} {n : Int} {fs : Nat} {A C : World} (h : CapO bo bn bs N0 ps a c n fs A) (hs : A.heap.size ≤ C.heap.size) (h1 : C.heap[bo]? = A.heap[bo]?) (h2 : C.heap[bn]? = A.heap[bn]?) (h3 : C.heap[bs]? = A.heap[bs]?) (h4 : ∀ g, g < N0 → C.heap[g]? = A.heap[g]?) : CapO bo bn bs N0 ps a c n fs C :=
  ⟨(World.cell?_of_block (a := ⟨bo, 0, none⟩) h1).trans h.1, (World.cell?_of_block (a := ⟨bn, 0, none⟩) h2).trans h.2.1, (World.cell?_of_block (a := ⟨bs, 0, none⟩) h3).trans h.2.2.1, Nat.lt_of_lt_of_le h.2.2.2.1 hs, Nat.lt_of_lt_of_le h.2.2.2.2.1 hs, Nat.lt_of_lt_of_le h.2.2.2.2.2.1 hs,
    h.2.2.2.2.2.2.1.of (fun g _ hg => h4 g hg), Nat.le_trans h.2.2.2.2.2.2.2 hs⟩
theorem CapO.isIn {bo bn bs N0 : Nat} {ps : List Pt} {a : Option Addr} {c : Nat} {n : Int} {fs : Nat} {A : World} (h : CapO bo bn bs N0 ps a c n fs A) : OthIn A (.agg #[.slice a ps.length c]) ps :=
  ⟨_, rfl, a, c, rfl, h.2.2.2.2.2.2.1.wide (Nat.le_refl _) h.2.2.2.2.2.2.2⟩
end Go.Proofs.Ytbhmplccjaijjaa
