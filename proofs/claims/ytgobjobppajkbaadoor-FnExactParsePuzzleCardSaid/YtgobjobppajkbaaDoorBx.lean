/-
  A BOX OF A LAW THAT HOLDS A MACHINE.
  TWO ROWS THAT GROW SIDE BY SIDE, in a box of two cells.
-/
import Derived.Test.YtgobjobppajkbaaDoorMachL
import Derived.Maps.AppendAt
namespace Go.Proofs.YtgobjobppajkbaaDoor
open Go.RowKit
set_option linter.unusedVariables false

/-- A block whose first two cells are x, y. -/
def Bx (w : World) (b : Nat) (x y : Value) : Prop := w.cell? ⟨b, 0, none⟩ = some x ∧ w.cell? ⟨b, 1, none⟩ = some y ∧ b < w.heap.size
theorem Bx.of {w w' : World} {b : Nat} {x y : Value} (h : Bx w b x y) (hs : w.heap.size ≤ w'.heap.size) (he : w'.heap[b]? = w.heap[b]?) : Bx w' b x y :=
  ⟨(World.cell?_of_block (a := ⟨b, 0, none⟩) he).trans h.1, (World.cell?_of_block (a := ⟨b, 1, none⟩) he).trans h.2.1, Nat.lt_of_lt_of_le h.2.2 hs⟩
theorem Bx.kept {w w' : World} {b : Nat} {x y : Value} (h : Bx w b x y) (hb : Below w.heap.size w w') : Bx w' b x y := h.of hb.size (hb.block b h.2.2)
theorem Bx.touch {w w' : World} {lo hi b : Nat} {x y : Value} (h : Bx w b x y) (ht : Touch lo hi w w') (hd : b < lo ∨ hi ≤ b) : Bx w' b x y := h.of ht.size (ht.block b h.2.2 hd)
theorem Bx.new (w : World) (x y : Value) (T : TypeId) : Bx (w.alloc (.cells #[x, y] T)) w.heap.size x y := ⟨by go_simp, by go_simp, by simp⟩
theorem below_alloc (w : World) (X : Obj) : Below w.heap.size w (w.alloc X) := (Below.refl w.heap.size w).alloc (Nat.le_refl _) X
theorem Bx.grow {w : World} {b : Nat} {x y : Value} (h : Bx w b x y) (X : Obj) : Bx (w.alloc X) b x y := h.kept (below_alloc w X)
theorem MacIn.agg {w : World} {v1 v2 : Value} {ns ds : List Int} (h1 : IntsIn w v1 ns) (h2 : IntsIn w v2 ds) : MacIn w (.agg #[v1, v2]) ns ds := ⟨v1, v2, rfl, h1, h2⟩
end Go.Proofs.YtgobjobppajkbaaDoor

namespace Go.Proofs.YtgobjobppajkbaaDoor
open Go.RowKit
set_option linter.unusedVariables false

/-- Two rows of the call's own, not in one block. -/
structure LwAt (w : World) (B : Nat) (u1 u2 : Value) (xs ys : List Int) : Prop where
  h1 : IntsAt w B u1 xs
  h2 : IntsAt w B u2 ys
  ne : ∀ g, u1.ownBlock = some g → u2.ownBlock ≠ some g
theorem LwAt.kept {w w' : World} {B : Nat} {u1 u2 : Value} {xs ys : List Int} (h : LwAt w B u1 u2 xs ys) (hb : Below w.heap.size w w') : LwAt w' B u1 u2 xs ys := ⟨ownsRow_kept h.h1 hb, ownsRow_kept h.h2 hb, h.ne⟩
theorem LwAt.sym {w : World} {B : Nat} {u1 u2 : Value} {xs ys : List Int} (h : LwAt w B u1 u2 xs ys) : LwAt w B u2 u1 ys xs := ⟨h.h2, h.h1, fun g e1 e2 => h.ne g e2 e1⟩
theorem rowL_touch {A C : World} {lo hi B n : Nat} {v : Value} {vs : List Value} {T : TypeId} {k : Nat} (h : A.ownsRow B T k v n vs) (ht : Touch lo hi A C) (hd : ∀ g, v.ownBlock = some g → g < lo ∨ hi ≤ g) : C.ownsRow B T k v n vs := by
  rcases h.2 with ⟨rfl, h0⟩ | ⟨g, cap, cur, rfl, hB, hg, hn, hm, hs, hx⟩
  · exact ⟨h.1, .inl ⟨rfl, h0⟩⟩
  · refine ⟨h.1, .inr ⟨g, cap, cur, rfl, hB, ?_, hn, hm, hs, hx⟩⟩
    rw [ht.block g (Array.getElem?_eq_some_iff.1 hg).1 (hd g rfl)]
    exact hg
theorem LwAt.touch {A C : World} {lo hi B : Nat} {u1 u2 : Value} {xs ys : List Int} (h : LwAt A B u1 u2 xs ys) (ht : Touch lo hi A C) (hd : hi ≤ B) : LwAt C B u1 u2 xs ys :=
  ⟨rowL_touch h.h1 ht (fun g e => .inr (Nat.le_trans hd (World.ownsRow.lt h.h1 g e).1)), rowL_touch h.h2 ht (fun g e => .inr (Nat.le_trans hd (World.ownsRow.lt h.h2 g e).1)), h.ne⟩
theorem LwAt.set {w : World} {B : Nat} {u1 u2 : Value} {xs ys : List Int} (h : LwAt w B u1 u2 xs ys) {O k : Nat} (hO : O < B) (v : Value) : LwAt (w.setCell ⟨O, k, none⟩ v) B u1 u2 xs ys :=
  h.touch ((Touch.refl O (O + 1) w).setCell (p := ⟨O, k, none⟩) (Nat.le_refl _) (Nat.lt_succ_self _) v) hO
theorem LwAt.snoc {wr W w5 : World} {B : Nat} {u1 u2 v5 : Value} {xs ys : List Int} {x : Int} (h : LwAt wr B u1 u2 xs ys) (hb : Below wr.heap.size wr W)
    (hown : w5.ownsRow B 3 1 v5 (xs.length + 1) (xs.map (Value.int .i64) ++ [.int .i64 x])) (hg : W.grownBy w5 u1.ownBlock) (hat : v5.ownBlock = u1.ownBlock ∨ v5.ownBlock = some W.heap.size) : LwAt w5 B v5 u2 (xs ++ [x]) ys := by
  refine ⟨by unfold IntsAt; simpa using hown, (ownsRow_kept h.h2 hb).kept hg ?_, fun g e1 e2 => ?_⟩
  · rcases e : u2.ownBlock with _ | g
    · exact .inl rfl
    · exact .inr (fun e2 => h.ne g e2.symm e)
  · rcases hat with e | e
    · exact h.ne g (e ▸ e1) e2
    · rw [e] at e1
      injection e1 with e1
      have := (World.ownsRow.lt h.h2 g e2).2
      have := hb.size
      omega
/-- A box below the rows is as it was behind an append. -/
theorem Bx.grown {wr W w5 : World} {b B : Nat} {x y u1 : Value} {n : Nat} {vs : List Value} (h : Bx wr b x y) (h1 : wr.ownsRow B 3 1 u1 n vs) (hbB : b < B) (hb : Below wr.heap.size wr W) (hg : W.grownBy w5 u1.ownBlock) : Bx w5 b x y :=
  (h.kept hb).of hg.size (hg.block b (Nat.lt_of_lt_of_le h.2.2 hb.size) (fun e => by have := (World.ownsRow.lt h1 b e.symm).1; omega))
/-- The same, its cells free. -/
def BxF (w : World) (b : Nat) (x y : Value) : Prop := Bx w b x y ∧ w.frozen? ⟨b, 0, none⟩ = false ∧ w.frozen? ⟨b, 1, none⟩ = false
theorem BxF.kept {w w' : World} {b : Nat} {x y : Value} (h : BxF w b x y) (hb : Below w.heap.size w w') : BxF w' b x y :=
  ⟨h.1.kept hb, (hb.frozen (p := ⟨b, 0, none⟩) h.1.2.2).trans h.2.1, (hb.frozen (p := ⟨b, 1, none⟩) h.1.2.2).trans h.2.2⟩
theorem BxF.of {w w' : World} {b : Nat} {x y : Value} (h : BxF w b x y) (hs : w.heap.size ≤ w'.heap.size) (he : w'.heap[b]? = w.heap[b]?) : BxF w' b x y :=
  ⟨h.1.of hs he, (World.frozen?_of_block (a := ⟨b, 0, none⟩) he).trans h.2.1, (World.frozen?_of_block (a := ⟨b, 1, none⟩) he).trans h.2.2⟩
theorem BxF.grown {wr W w5 : World} {b B : Nat} {x y u1 : Value} {n : Nat} {vs : List Value} (h : BxF wr b x y) (h1 : wr.ownsRow B 3 1 u1 n vs) (hbB : b < B) (hb : Below wr.heap.size wr W) (hg : W.grownBy w5 u1.ownBlock) : BxF w5 b x y :=
  (h.kept hb).of hg.size (hg.block b (Nat.lt_of_lt_of_le h.1.2.2 hb.size) (fun e => by have := (World.ownsRow.lt h1 b e.symm).1; omega))
theorem BxF.new (w : World) (x y : Value) (T : TypeId) : BxF (w.alloc (.cells #[x, y] T)) w.heap.size x y := ⟨Bx.new w x y T, by go_simp, by go_simp⟩
theorem BxF.other {w : World} {b c k : Nat} {x y : Value} (h : BxF w b x y) (hne : b ≠ c) (v : Value) : BxF (w.setCell ⟨c, k, none⟩ v) b x y := h.of (by simp) (Below.heap_setCell _ _ _ _ (by simpa using hne))
theorem Bx.other {w : World} {b c k : Nat} {x y : Value} (h : Bx w b x y) (hne : b ≠ c) (v : Value) : Bx (w.setCell ⟨c, k, none⟩ v) b x y := h.of (by simp) (Below.heap_setCell _ _ _ _ (by simpa using hne))
theorem BxF.set0 {w : World} {b : Nat} {x y : Value} (h : BxF w b x y) (v : Value) : BxF (w.setCell ⟨b, 0, none⟩ v) b v y :=
  ⟨⟨World.cell?_setCell_same' _ _ _ (by rw [h.1.1]; rfl), (World.cell?_setCell_other _ _ _ _ (by simp)).trans h.1.2.1, by have := h.1.2.2; simpa using this⟩, by rw [World.frozen?_setCell]; exact h.2.1, by rw [World.frozen?_setCell]; exact h.2.2⟩
theorem BxF.set1 {w : World} {b : Nat} {x y : Value} (h : BxF w b x y) (v : Value) : BxF (w.setCell ⟨b, 1, none⟩ v) b x v :=
  ⟨⟨(World.cell?_setCell_other _ _ _ _ (by simp)).trans h.1.1, World.cell?_setCell_same' _ _ _ (by rw [h.1.2.1]; rfl), by have := h.1.2.2; simpa using this⟩, by rw [World.frozen?_setCell]; exact h.2.1, by rw [World.frozen?_setCell]; exact h.2.2⟩
theorem BxF.touch {w w' : World} {lo hi b : Nat} {x y : Value} (h : BxF w b x y) (ht : Touch lo hi w w') (hd : b < lo ∨ hi ≤ b) : BxF w' b x y := h.of ht.size (ht.block b h.1.2.2 hd)
end Go.Proofs.YtgobjobppajkbaaDoor
