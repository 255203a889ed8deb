/-
  A PUZZLE HANDED BACK: its block, the three cells stored.
-/
import Derived.Test.YtkikmmnmppikpaaCon
import Derived.Test.YtkikmmnmppikpaaPzK
namespace Go.Proofs.Ytkikmmnmppikpaa
open Go.RowKit
set_option linter.unusedVariables false

def RetPuz (tx ty : Int) (xs : List Pt) (ok : Bool) (w : World) (e : Ending) (w' : World) : Prop :=
  ∃ v, e = .returned (.tuple #[v, .bool ok]) ∧ PuzAt w' w.heap.size w'.heap.size v tx ty xs ∧ Below w.heap.size w w'
/-- A map that is there if a flag says so. -/
def ifT (b : Bool) (t : Int) : Int := if b = true then t else 0
/-- A box of a puzzle that may be written. -/
def BzF (w : World) (b : Nat) (t p : Int) (x : Value) : Prop := Bz w b t p x ∧ ∀ o, w.frozen? ⟨b, o, none⟩ = false
theorem BzF.kept {w w' : World} {b : Nat} {t p : Int} {x : Value} (h : BzF w b t p x) (hb : Below w.heap.size w w') : BzF w' b t p x :=
  ⟨h.1.kept hb, fun o => (hb.frozen (p := ⟨b, o, none⟩) h.1.2).trans (h.2 o)⟩
theorem BzF.new (w : World) (t p : Int) (x : Value) (T : TypeId) {b : Nat} (hb : w.heap.size = b) : BzF (w.alloc (.cells #[.int .i64 t, .int .i64 p, x] T)) b t p x := by
  subst hb
  exact ⟨Bz.new _ _ _ _ _, fun o => by go_simp⟩
theorem BzF.cells {w : World} {b : Nat} {t p : Int} {x : Value} (h : BzF w b t p x) : w.cell? ⟨b, 0, none⟩ = some (.int .i64 t) ∧ w.cell? ⟨b, 1, none⟩ = some (.int .i64 p) ∧ w.cell? ⟨b, 2, none⟩ = some x ∧ w.frozen? ⟨b, 0, none⟩ = false ∧ w.frozen? ⟨b, 1, none⟩ = false ∧ w.frozen? ⟨b, 2, none⟩ = false :=
  ⟨h.1.1.1, h.1.1.2.1, h.1.1.2.2, h.2 0, h.2 1, h.2 2⟩
/-- The three cells stored. -/
def put3 (w : World) (b : Nat) (t p : Int) (z : Value) : World := ((w.setCell ⟨b, 0, none⟩ (.int .i64 t)).setCell ⟨b, 1, none⟩ (.int .i64 p)).setCell ⟨b, 2, none⟩ z
theorem put3_cells {w : World} {b : Nat} {x y : Int} {u : Value} (h : BzF w b x y u) (t p : Int) (z : Value) : (put3 w b t p z).cell? ⟨b, 0, none⟩ = some (.int .i64 t) ∧ (put3 w b t p z).cell? ⟨b, 1, none⟩ = some (.int .i64 p) ∧ (put3 w b t p z).cell? ⟨b, 2, none⟩ = some z := by
  obtain ⟨c0, c1, c2, _⟩ := h.cells
  unfold put3
  refine ⟨?_, ?_, ?_⟩
  · exact (World.cell?_setCell_other _ _ _ _ (by simp)).trans ((World.cell?_setCell_other _ _ _ _ (by simp)).trans (World.cell?_setCell_same' _ _ _ (by rw [c0]; rfl)))
  · refine (World.cell?_setCell_other _ _ _ _ (by simp)).trans (World.cell?_setCell_same' _ _ _ ?_)
    rw [World.cell?_setCell_other _ _ _ _ (by simp), c1]; rfl
  · refine World.cell?_setCell_same' _ _ _ ?_
    rw [World.cell?_setCell_other _ _ _ _ (by simp), World.cell?_setCell_other _ _ _ _ (by simp), c2]; rfl
theorem put3_below {n : Nat} {w w' : World} (h : Below n w w') {b : Nat} (hb : n ≤ b) (t p : Int) (z : Value) : Below n w (put3 w' b t p z) :=
  ((h.setCell (p := ⟨b, 0, none⟩) hb _).setCell (p := ⟨b, 1, none⟩) hb _).setCell (p := ⟨b, 2, none⟩) hb _
theorem put3_size (w : World) (b : Nat) (t p : Int) (z : Value) : (put3 w b t p z).heap.size = w.heap.size := by simp [put3]
theorem put3_heap (w : World) (b : Nat) (t p : Int) (z : Value) {g : Nat} (hg : g ≠ b) : (put3 w b t p z).heap[g]? = w.heap[g]? := by
  unfold put3
  rw [Below.heap_setCell _ _ _ _ (by simpa using hg), Below.heap_setCell _ _ _ _ (by simpa using hg), Below.heap_setCell _ _ _ _ (by simpa using hg)]
/-- What is handed back once the block is filled. -/
theorem puz_leaf {w w5 : World} {b n B : Nat} {t p : Int} {v5 : Value} {xs : List Pt} (hv : ClsAt w5 B v5 xs) (hb : Below n w w5) (hn : n ≤ b) (hB : b < B) :
    ∃ a c, v5 = .slice a xs.length c ∧ PuzAt (put3 w5 b t p v5) n (put3 w5 b t p v5).heap.size (.agg #[.int .i64 t, .int .i64 p, v5]) t p xs ∧ Below n w (put3 w5 b t p v5) := by
  obtain ⟨a, c, rfl, h1, h2⟩ := hv.row
  refine ⟨a, c, rfl, ⟨Nat.le_refl _, a, c, rfl, h1, ?_⟩, put3_below hb hn _ _ _⟩
  rw [put3_size]
  exact (h2.of (fun g hg _ => put3_heap _ _ _ _ _ (by omega))).wide (by omega) (Nat.le_refl _)
/-- The empty one. -/
theorem puz_none {w w5 : World} {b n : Nat} (hb : Below n w w5) (hn : n ≤ b) :
    PuzAt (put3 w5 b 0 0 (.slice none 0 0)) n (put3 w5 b 0 0 (.slice none 0 0)).heap.size (.agg #[.int .i64 0, .int .i64 0, .slice none 0 0]) 0 0 [] ∧ Below n w (put3 w5 b 0 0 (.slice none 0 0)) :=
  ⟨⟨Nat.le_refl _, none, 0, rfl, ⟨Nat.le_refl _, Nat.zero_le _⟩, fun h => (h rfl).elim⟩, put3_below hb hn _ _ _⟩
end Go.Proofs.Ytkikmmnmppikpaa
