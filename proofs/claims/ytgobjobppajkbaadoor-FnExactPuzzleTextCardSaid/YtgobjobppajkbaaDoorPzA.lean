/-
  'pzAll' of the model: all hidden numbers that fit some clues.
-/
import Derived.Test.YtgobjobppajkbaaDoorPzG
namespace Go.Proofs.YtgobjobppajkbaaDoor
open Go.RowKit
set_option linter.unusedVariables false

/-- A row of whole numbers made by the call. -/
def RetNew (xs : List Int) (w : World) (e : Ending) (w' : World) : Prop := ∃ v, e = .returned v ∧ IntsAt w' w.heap.size v xs ∧ Below w.heap.size w w'

/-- A box that holds a map. -/
def Bm (w : World) (b : Nat) (t p : Int) : Prop := (w.cell? ⟨b, 0, none⟩ = some (.int .i64 t) ∧ w.cell? ⟨b, 1, none⟩ = some (.int .i64 p)) ∧ b < w.heap.size
theorem Bm.kept {w w' : World} {b n : Nat} {t p : Int} (h : Bm w b t p) (hb : Below n w w') (hn : b < n) : Bm w' b t p :=
  ⟨⟨(hb.cell (p := ⟨b, 0, none⟩) hn).trans h.1.1, (hb.cell (p := ⟨b, 1, none⟩) hn).trans h.1.2⟩, Nat.lt_of_lt_of_le h.2 hb.size⟩
theorem Bm.keep {w w' : World} {b : Nat} {t p : Int} (h : Bm w b t p) (hb : Below w.heap.size w w') : Bm w' b t p := h.kept hb h.2
theorem Bm.new (w : World) (t p : Int) (T : TypeId) : Bm (w.alloc (.cells #[.int .i64 t, .int .i64 p] T)) w.heap.size t p := ⟨⟨by go_simp, by go_simp⟩, by simp⟩

end Go.Proofs.YtgobjobppajkbaaDoor
