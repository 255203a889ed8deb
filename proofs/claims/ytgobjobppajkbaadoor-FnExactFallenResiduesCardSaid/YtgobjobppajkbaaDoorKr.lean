/-
  ROWS OF KIN: three cells each, of the call's own (gen_kr.py).
-/
import Derived.Test.YtgobjobppajkbaaDoorTri
import Derived.Deep.AppendLies
namespace Go.Proofs.YtgobjobppajkbaaDoor
open Go.RowKit
set_option linter.unusedVariables false

abbrev Pt := Z3
def pt0 : Pt := (0, 0, 0)
theorem below_new (w : World) (X : Obj) : Below w.heap.size w (w.alloc X) := (Below.refl w.heap.size w).alloc (Nat.le_refl _) X
/-- A part's cells, from the offset o on. -/
def PtCell (w : World) (g o : Nat) (q : Pt) : Prop :=
  w.cell? ⟨g, o, none⟩ = some (.int .i64 q.1) ∧ w.cell? ⟨g, o + 1, none⟩ = some (.int .i64 q.2.1) ∧ w.cell? ⟨g, o + 2, none⟩ = some (.int .i64 q.2.2)
def PtFree (w : World) (g o : Nat) : Prop :=
  w.frozen? ⟨g, o, none⟩ = false ∧ w.frozen? ⟨g, o + 1, none⟩ = false ∧ w.frozen? ⟨g, o + 2, none⟩ = false
theorem PtCell.of {w w' : World} {g o : Nat} {q : Pt} (h : PtCell w g o q) (he : w'.heap[g]? = w.heap[g]?) : PtCell w' g o q :=
  ⟨(World.cell?_of_block (a := ⟨g, _, none⟩) he).trans h.1, (World.cell?_of_block (a := ⟨g, _, none⟩) he).trans h.2.1, (World.cell?_of_block (a := ⟨g, _, none⟩) he).trans h.2.2⟩
theorem PtFree.of {w w' : World} {g o : Nat} (h : PtFree w g o) (he : w'.heap[g]? = w.heap[g]?) : PtFree w' g o :=
  ⟨(World.frozen?_of_block (a := ⟨g, _, none⟩) he).trans h.1, (World.frozen?_of_block (a := ⟨g, _, none⟩) he).trans h.2.1, (World.frozen?_of_block (a := ⟨g, _, none⟩) he).trans h.2.2⟩
theorem PtCell.set {w : World} {g o : Nat} {q : Pt} (h : PtCell w g o q) (t p z : Int) : PtCell (((w.setCell ⟨g, o, none⟩ (.int .i64 t)).setCell ⟨g, o + 1, none⟩ (.int .i64 p)).setCell ⟨g, o + 2, none⟩ (.int .i64 z)) g o (t, p, z) := by
  obtain ⟨h0, h1, h2⟩ := h
  refine ⟨?_, ?_, ?_⟩
  · exact (World.cell?_setCell_other _ _ _ _ (by simp)).trans ((World.cell?_setCell_other _ _ _ _ (by simp)).trans (World.cell?_setCell_same' _ _ _ (by rw [h0]; rfl)))
  · refine (World.cell?_setCell_other _ _ _ _ (by simp)).trans (World.cell?_setCell_same' _ _ _ ?_)
    rw [World.cell?_setCell_other _ _ _ _ (by simp), h1]; rfl
  · refine World.cell?_setCell_same' _ _ _ ?_
    rw [World.cell?_setCell_other _ _ _ _ (by simp), World.cell?_setCell_other _ _ _ _ (by simp), h2]; rfl
theorem PtCell.set_other {w : World} {g o o' : Nat} {q : Pt} (h : PtCell w g o q) (hd : o + 3 ≤ o' ∨ o' + 3 ≤ o) (t p z : Value) : PtCell (((w.setCell ⟨g, o', none⟩ t).setCell ⟨g, o' + 1, none⟩ p).setCell ⟨g, o' + 2, none⟩ z) g o q := by
  obtain ⟨h0, h1, h2⟩ := h
  refine ⟨?_, ?_, ?_⟩
  all_goals rw [World.cell?_setCell_other _ _ _ _ (by simp <;> omega), World.cell?_setCell_other _ _ _ _ (by simp <;> omega), World.cell?_setCell_other _ _ _ _ (by simp <;> omega)]; assumption
theorem PtFree.set {w : World} {g o : Nat} (h : PtFree w g o) (a b c : Addr) (t p z : Value) : PtFree (((w.setCell a t).setCell b p).setCell c z) g o := by
  obtain ⟨h0, h1, h2⟩ := h
  refine ⟨?_, ?_, ?_⟩
  all_goals rw [World.frozen?_setCell, World.frozen?_setCell, World.frozen?_setCell]; assumption
theorem below_set3 {n : Nat} {w w' : World} {g o : Nat} (h : Below n w w') (hg : n ≤ g) (t p z : Value) : Below n w (((w'.setCell ⟨g, o, none⟩ t).setCell ⟨g, o + 1, none⟩ p).setCell ⟨g, o + 2, none⟩ z) :=
  ((h.setCell (p := ⟨g, o, none⟩) hg _).setCell (p := ⟨g, o + 1, none⟩) hg _).setCell (p := ⟨g, o + 2, none⟩) hg _
/-- One part of a row is put anew. -/
theorem rowPut {w : World} {g r K : Nat} {f f' : Nat → Pt} {t p z : Int} (hr : r < K) (hq : f' r = (t, p, z)) (ho : ∀ i, i < K → i ≠ r → f' i = f i) (h : ∀ i, i < K → PtCell w g (i * 3) (f i) ∧ PtFree w g (i * 3)) :
    ∀ i, i < K → PtCell (((w.setCell ⟨g, r * 3, none⟩ (.int .i64 t)).setCell ⟨g, r * 3 + 1, none⟩ (.int .i64 p)).setCell ⟨g, r * 3 + 2, none⟩ (.int .i64 z)) g (i * 3) (f' i) ∧ PtFree (((w.setCell ⟨g, r * 3, none⟩ (.int .i64 t)).setCell ⟨g, r * 3 + 1, none⟩ (.int .i64 p)).setCell ⟨g, r * 3 + 2, none⟩ (.int .i64 z)) g (i * 3) := by
  intro i hi
  refine ⟨?_, (h i hi).2.set _ _ _ _ _ _⟩
  by_cases e : i = r
  · subst e
    rw [hq]
    exact (h i hi).1.set t p z
  · rw [ho i hi e]
    exact (h i hi).1.set_other (by omega) _ _ _

/-- Parts as cells, one behind the other. -/
def ptCells (qs : List Pt) : List Value := qs.flatMap fun q => [.int .i64 q.1, .int .i64 q.2.1, .int .i64 q.2.2]
theorem ptCells_snoc (qs : List Pt) (q : Pt) : ptCells (qs ++ [q]) = ptCells qs ++ [.int .i64 q.1, .int .i64 q.2.1, .int .i64 q.2.2] := by simp [ptCells]
theorem ptCells_length (qs : List Pt) : (ptCells qs).length = qs.length * 3 := by
  induction qs with
  | nil => rfl
  | cons q qs ih => simp [ptCells] at ih ⊢; omega
theorem ptCells_at : ∀ (qs : List Pt) (k : Nat), k < qs.length → (ptCells qs)[k * 3]? = some (.int .i64 (qs.getD k pt0).1) ∧ (ptCells qs)[k * 3 + 1]? = some (.int .i64 (qs.getD k pt0).2.1) ∧ (ptCells qs)[k * 3 + 2]? = some (.int .i64 (qs.getD k pt0).2.2)
  | [], k, h => by simp at h
  | q :: qs, 0, h => by simp [ptCells]
  | q :: qs, k + 1, h => by
    have ih := ptCells_at qs k (by simpa using h)
    have e : ptCells (q :: qs) = [.int .i64 q.1, .int .i64 q.2.1, .int .i64 q.2.2] ++ ptCells qs := by simp [ptCells]
    rw [e, List.getElem?_append_right (by simp; omega), List.getElem?_append_right (by simp; omega), List.getElem?_append_right (by simp; omega)]
    simpa [show (k + 1) * 3 - 3 = k * 3 by omega, show (k + 1) * 3 + 1 - 3 = k * 3 + 1 by omega, show (k + 1) * 3 + 2 - 3 = k * 3 + 2 by omega] using ih
/-- A row of parts of the call's own. -/
def PtsAt (w : World) (B : Nat) (v : Value) (qs : List Pt) : Prop := w.ownsRow B 72 3 v qs.length (ptCells qs)
theorem ptsAt_nil (w : World) (B : Nat) : PtsAt w B (.slice none 0 0) [] := World.ownsRow_nil _ _ _ _
theorem three_new (w : World) (x y z : Value) (T : TypeId) {s : Nat} (hs : w.heap.size = s) {j : Nat} {u : Value} (h : [x, y, z][j]? = some u) : (w.alloc (.cells #[x, y, z] T)).cell? ((⟨s, 0, none⟩ : Addr).add j) = some u := by
  subst hs
  cases j with
  | zero => simp at h; subst h; simp [Addr.add]
  | succ j => cases j with
    | zero => simp at h; subst h; simp [Addr.add]
    | succ j => cases j with
      | zero => simp at h; subst h; simp [Addr.add]
      | succ j => simp at h

theorem own_formP {w : World} {B : Nat} {v : Value} {n : Nat} {vs : List Value} {T : TypeId} (h : w.ownsRow B T 3 v n vs) : ∃ a cap, v = .slice a n cap := by
  rcases h.2 with ⟨rfl, rfl⟩ | ⟨g, cap, cur, hv, _⟩
  · exact ⟨none, 0, rfl⟩
  · exact ⟨_, cap, hv⟩



theorem PtsAt.form {w : World} {B : Nat} {v : Value} {qs : List Pt} (h : PtsAt w B v qs) : ∃ a cap, v = .slice a qs.length cap ∧ ∀ j, j < qs.length → ∃ g, a = some ⟨g, 0, none⟩ ∧ B ≤ g ∧ g < w.heap.size ∧ PtCell w g (j * 3) (qs.getD j pt0) := by
  rcases h.2 with ⟨rfl, h0⟩ | ⟨g, cap, cur, rfl, hB, hg, hn, hm, _⟩
  · exact ⟨none, 0, by rw [h0], fun j hj => by omega⟩
  · refine ⟨_, cap, rfl, fun k hk => ⟨g, rfl, hB, (Array.getElem?_eq_some_iff.1 hg).1, ⟨?_, ?_, ?_⟩⟩⟩
    · rw [World.ownsRow.cellAt h (k * 3) (by omega)]; exact (ptCells_at qs k hk).1
    · rw [World.ownsRow.cellAt h (k * 3 + 1) (by omega)]; exact (ptCells_at qs k hk).2.1
    · rw [World.ownsRow.cellAt h (k * 3 + 2) (by omega)]; exact (ptCells_at qs k hk).2.2
theorem infoKin : (Tryd.prog.info? 72).map (fun i => (i.zero, i.size, i.bytes)) = some (some (.agg #[.int .i64 0, .int .i64 0, .int .i64 0]), 3, 24) := by kernel_rfl
theorem eqKin (a b c d e f : Int) (w : World) : (Op.equalIn 10000 72 (.agg #[.int .i64 a, .int .i64 b, .int .i64 c]) (.agg #[.int .i64 d, .int .i64 e, .int .i64 f])).run Tryd.prog w = .ok (a == d && (b == e && c == f)) w := by
  rw [show (10000 : Nat) = 9999 + 1 from rfl, run_equalIn_struct _ _ _ _ _ (by kernel_rfl) (by kernel_rfl)]
  cases h1 : (a == d) <;> cases h2 : (b == e) <;> cases h3 : (c == f) <;> simp [go_sem, Op.eqFields, h1, h2, h3]
end Go.Proofs.YtgobjobppajkbaaDoor
