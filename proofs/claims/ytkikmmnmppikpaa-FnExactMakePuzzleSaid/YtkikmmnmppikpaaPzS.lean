/-
  'pzClue', 'pzGood', 'IsClue', 'IsPuzzle' of the model; rows of clues wherever they lie.
-/
import Derived.Test.YtkikmmnmppikpaaCl
import Derived.Deep.RegionWith
namespace Go.Proofs.Ytkikmmnmppikpaa
open Go.RowKit
set_option linter.unusedVariables false

/-- A row of clues that can be read, wherever it lies. -/
def ClIn (w : World) (a : Option Addr) (ps : List Pt) : Prop := ∀ j, j < ps.length → ∃ b off, a = some ⟨b, off, none⟩ ∧ b < w.heap.size ∧ PtCell w b (off + j * 3) (ps.getD j pt0)
theorem ClIn.kept {w w' : World} {a : Option Addr} {ps : List Pt} {n : Nat} (h : ClIn w a ps) (hb : Below n w w') (hn : w.heap.size ≤ n) : ClIn w' a ps := by
  intro j hj
  obtain ⟨b, off, rfl, hlt, hc⟩ := h j hj
  exact ⟨b, off, rfl, Nat.lt_of_lt_of_le hlt hb.size, hc.of (hb.block b (Nat.lt_of_lt_of_le hlt hn))⟩
theorem ClIn.keep {w w' : World} {a : Option Addr} {ps : List Pt} (h : ClIn w a ps) (hb : Below w.heap.size w w') : ClIn w' a ps := h.kept hb (Nat.le_refl _)
theorem ClIn.grow {w : World} {a : Option Addr} {ps : List Pt} (h : ClIn w a ps) (X : Obj) : ClIn (w.alloc X) a ps := h.keep (below_new w X)
theorem ClIn.take {w : World} {a : Option Addr} {ps : List Pt} (h : ClIn w a ps) (k : Nat) : ClIn w a (ps.take k) := by
  intro j hj
  rw [List.length_take] at hj
  obtain ⟨b, off, rfl, hlt, hc⟩ := h j (by omega)
  refine ⟨b, off, rfl, hlt, ?_⟩
  rw [List.getD_eq_getElem?_getD, List.getElem?_take_of_lt (by omega), ← List.getD_eq_getElem?_getD]
  exact hc
theorem ClIn.nil (w : World) (a : Option Addr) : ClIn w a [] := fun j hj => by simp at hj
theorem PRow.cl {w : World} {lo hi : Nat} {a : Option Addr} {ps : List Pt} (h : PRow w lo hi a ps) (hh : hi ≤ w.heap.size) : ClIn w a ps := by
  intro j hj
  obtain ⟨g, rfl, h1, h2, h3⟩ := h (by rintro rfl; simp at hj)
  exact ⟨g, 0, rfl, by omega, by rw [Nat.zero_add]; exact (h3 j hj).1⟩
/-- A puzzle that can be read, wherever its clues lie. -/
def PzIn (w : World) (v : Value) (t p : Int) (ps : List Pt) : Prop := ∃ a cap, v = .agg #[.int .i64 t, .int .i64 p, .slice a ps.length cap] ∧ ps.length ≤ cap ∧ cap ≤ maxLen ∧ ClIn w a ps
theorem PzIn.kept {w w' : World} {v : Value} {t p : Int} {ps : List Pt} (h : PzIn w v t p ps) (hb : Below w.heap.size w w') : PzIn w' v t p ps := by
  obtain ⟨a, c, rfl, h1, h2, h3⟩ := h
  exact ⟨a, c, rfl, h1, h2, h3.keep hb⟩

theorem clB_zero (a b : Int) : clB (0, a, b) = (inB a 2 12 && inB b 0 (a - 1)) := by simp [clB, aIn, bIn]
theorem clB_some {k a b : Int} (hk : k ≠ 0) : clB (k, a, b) = (inB a 0 20 && bIn k a b) := by simp [clB, aIn, hk]

end Go.Proofs.Ytkikmmnmppikpaa
