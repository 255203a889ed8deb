/-
  ROWS OF CLUES OF THE CALL's OWN, A BOX OF A PUZZLE (gen_clo.py): what reading a puzzle needs.
-/
import Derived.Test.YtgobjobppajkbaaDoorPzS
import Derived.Test.YtgobjobppajkbaaDoorRdM
import Derived.Deep.AppendLies
namespace Go.Proofs.YtgobjobppajkbaaDoor
open Go.RowKit
set_option linter.unusedVariables false

/-- Clues as cells, one behind the other. -/
def ptCells (qs : List Pt) : List Value := qs.flatMap fun q => [.int .i64 q.1, .int .i64 q.2.1, .int .i64 q.2.2]
theorem ptCells_snoc (qs : List Pt) (q : Pt) : ptCells (qs ++ [q]) = ptCells qs ++ [.int .i64 q.1, .int .i64 q.2.1, .int .i64 q.2.2] := by simp [ptCells]
theorem ptCells_length (qs : List Pt) : (ptCells qs).length = qs.length * 3 := by
  induction qs with
  | nil => rfl
  | cons q qs ih => simp [ptCells] at ih ⊢; omega
theorem ptCells_at : ∀ (qs : List Pt) (k : Nat), k < qs.length → (ptCells qs)[k * 3]? = some (.int .i64 (qs.getD k pt0).1) ∧ (ptCells qs)[k * 3 + 1]? = some (.int .i64 (qs.getD k pt0).2.1) ∧ (ptCells qs)[k * 3 + 2]? = some (.int .i64 (qs.getD k pt0).2.2)
  | [], k, h => by simp at h
  | q :: qs, 0, h => by simp [ptCells]
  | q :: qs, k + 1, h => by
    have ih := ptCells_at qs k (by simpa using h)
    have e : ptCells (q :: qs) = [.int .i64 q.1, .int .i64 q.2.1, .int .i64 q.2.2] ++ ptCells qs := by simp [ptCells]
    rw [e, List.getElem?_append_right (by simp; omega), List.getElem?_append_right (by simp; omega), List.getElem?_append_right (by simp; omega)]
    simpa [show (k + 1) * 3 - 3 = k * 3 by omega, show (k + 1) * 3 + 1 - 3 = k * 3 + 1 by omega, show (k + 1) * 3 + 2 - 3 = k * 3 + 2 by omega] using ih
/-- A row of parts of the call's own. -/
def ClsAt (w : World) (B : Nat) (v : Value) (qs : List Pt) : Prop := w.ownsRow B 93 3 v qs.length (ptCells qs)
theorem clsAt_nil (w : World) (B : Nat) : ClsAt w B (.slice none 0 0) [] := World.ownsRow_nil _ _ _ _
theorem ClsAt.prow {w : World} {B : Nat} {v : Value} {qs : List Pt} (h : ClsAt w B v qs) : ∃ a c, v = .slice a qs.length c ∧ PRow w B w.heap.size a qs := by
  rcases h.2 with ⟨rfl, h0⟩ | ⟨g, cap, cur, rfl, hB, hg, hn, hm, _⟩
  · obtain rfl : qs = [] := List.eq_nil_of_length_eq_zero h0
    exact ⟨none, 0, rfl, fun h => (h rfl).elim⟩
  · refine ⟨_, cap, rfl, fun _ => ⟨g, rfl, hB, (Array.getElem?_eq_some_iff.1 hg).1, fun k hk => ⟨⟨?_, ?_, ?_⟩, World.ownsRow.frozenAt h _, World.ownsRow.frozenAt h _, World.ownsRow.frozenAt h _⟩⟩⟩
    · rw [World.ownsRow.cellAt h (k * 3) (by omega)]; exact (ptCells_at qs k hk).1
    · rw [World.ownsRow.cellAt h (k * 3 + 1) (by omega)]; exact (ptCells_at qs k hk).2.1
    · rw [World.ownsRow.cellAt h (k * 3 + 2) (by omega)]; exact (ptCells_at qs k hk).2.2
theorem three_new (w : World) (x y z : Value) (T : TypeId) {s : Nat} (hs : w.heap.size = s) {j : Nat} {u : Value} (h : [x, y, z][j]? = some u) : (w.alloc (.cells #[x, y, z] T)).cell? ((⟨s, 0, none⟩ : Addr).add j) = some u := by
  subst hs
  cases j with
  | zero => simp at h; subst h; simp [Addr.add]
  | succ j => cases j with
    | zero => simp at h; subst h; simp [Addr.add]
    | succ j => cases j with
      | zero => simp at h; subst h; simp [Addr.add]
      | succ j => simp at h

theorem ptCells_append (ps qs : List Pt) : ptCells (ps ++ qs) = ptCells ps ++ ptCells qs := by simp [ptCells]
theorem ptCells_one (ps : List Pt) : ∀ u ∈ ptCells ps, u.oneCell' = true := by
  intro u hu
  simp only [ptCells, List.mem_flatMap] at hu
  obtain ⟨q, _, hu⟩ := hu
  simp at hu
  rcases hu with rfl | rfl | rfl <;> rfl
theorem own_formP {w : World} {B : Nat} {v : Value} {n : Nat} {vs : List Value} {T : TypeId} (h : w.ownsRow B T 3 v n vs) : ∃ a cap, v = .slice a n cap := by
  rcases h.2 with ⟨rfl, rfl⟩ | ⟨g, cap, cur, hv, _⟩
  · exact ⟨none, 0, rfl⟩
  · exact ⟨_, cap, hv⟩


theorem clCells_src {w : World} {b off : Nat} {ps : List Pt} (h : ClIn w (some ⟨b, off, none⟩) ps) : ∀ j u, (ptCells ps)[j]? = some u → w.cell? ((⟨b, off, none⟩ : Addr).add j) = some u := by
  intro j u hu
  have hj : j < ps.length * 3 := by have := (List.getElem?_eq_some_iff.1 hu).1; rwa [ptCells_length] at this
  have e : ((⟨b, off, none⟩ : Addr).add j) = ⟨b, off + j, none⟩ := by simp [Addr.add]
  rw [e]
  clear e
  obtain ⟨k, hk⟩ : ∃ k, j / 3 = k := ⟨_, rfl⟩
  obtain ⟨c0, c1, c2⟩ := ptCells_at ps k (by omega)
  obtain ⟨b', off', e, _, k0, k1, k2⟩ := h k (by omega)
  simp only [Option.some.injEq, Addr.mk.injEq] at e
  obtain ⟨rfl, rfl, _⟩ := e
  have hm : j = k * 3 ∨ j = k * 3 + 1 ∨ j = k * 3 + 2 := by omega
  rcases hm with rfl | rfl | rfl
  · rw [c0] at hu; rw [← hu]; exact k0
  · rw [c1] at hu; rw [← hu, ← Nat.add_assoc]; exact k1
  · rw [c2] at hu; rw [← hu, ← Nat.add_assoc]; exact k2
/-- The row, its room, and where it lies. -/
theorem ClsAt.row {w : World} {B : Nat} {v : Value} {qs : List Pt} (h : ClsAt w B v qs) : ∃ a c, v = .slice a qs.length c ∧ (qs.length ≤ c ∧ c ≤ maxLen) ∧ PRow w B w.heap.size a qs := by
  rcases h.2 with ⟨rfl, h0⟩ | ⟨g, cap, cur, rfl, hB, hg, hn, hm, _⟩
  · obtain rfl : qs = [] := List.eq_nil_of_length_eq_zero h0
    exact ⟨none, 0, rfl, ⟨Nat.le_refl _, Nat.zero_le _⟩, fun h => (h rfl).elim⟩
  · obtain ⟨a, c, e, hp⟩ := h.prow
    cases e
    exact ⟨_, cap, rfl, ⟨hn, hm⟩, hp⟩
theorem ClsAt.cl {w : World} {B : Nat} {v : Value} {qs : List Pt} (h : ClsAt w B v qs) : ∃ a c, v = .slice a qs.length c ∧ (qs.length ≤ c ∧ c ≤ maxLen) ∧ ClIn w a qs := by
  obtain ⟨a, c, rfl, h1, h2⟩ := h.row
  exact ⟨a, c, rfl, h1, h2.cl (Nat.le_refl _)⟩
def RetPuz (tx ty : Int) (xs : List Pt) (ok : Bool) (w : World) (e : Ending) (w' : World) : Prop :=
  ∃ v, e = .returned (.tuple #[v, .bool ok]) ∧ PuzAt w' w.heap.size w'.heap.size v tx ty xs ∧ Below w.heap.size w w'
/-- A map that is there if a flag says so. -/
def ifT (b : Bool) (t : Int) : Int := if b = true then t else 0
/-- A box of a puzzle that may be written. -/
def BzF (w : World) (b : Nat) (t p : Int) (x : Value) : Prop := Bz w b t p x ∧ ∀ o, w.frozen? ⟨b, o, none⟩ = false
theorem BzF.kept {w w' : World} {b : Nat} {t p : Int} {x : Value} (h : BzF w b t p x) (hb : Below w.heap.size w w') : BzF w' b t p x :=
  ⟨h.1.kept hb, fun o => (hb.frozen (p := ⟨b, o, none⟩) h.1.2).trans (h.2 o)⟩
theorem BzF.new (w : World) (t p : Int) (x : Value) (T : TypeId) {b : Nat} (hb : w.heap.size = b) : BzF (w.alloc (.cells #[.int .i64 t, .int .i64 p, x] T)) b t p x := by
  subst hb
  exact ⟨Bz.new _ _ _ _ _, fun o => by go_simp⟩
theorem BzF.cells {w : World} {b : Nat} {t p : Int} {x : Value} (h : BzF w b t p x) : w.cell? ⟨b, 0, none⟩ = some (.int .i64 t) ∧ w.cell? ⟨b, 1, none⟩ = some (.int .i64 p) ∧ w.cell? ⟨b, 2, none⟩ = some x ∧ w.frozen? ⟨b, 0, none⟩ = false ∧ w.frozen? ⟨b, 1, none⟩ = false ∧ w.frozen? ⟨b, 2, none⟩ = false :=
  ⟨h.1.1.1, h.1.1.2.1, h.1.1.2.2, h.2 0, h.2 1, h.2 2⟩
/-- The three cells stored. -/
def put3 (w : World) (b : Nat) (t p : Int) (z : Value) : World := ((w.setCell ⟨b, 0, none⟩ (.int .i64 t)).setCell ⟨b, 1, none⟩ (.int .i64 p)).setCell ⟨b, 2, none⟩ z
theorem put3_cells {w : World} {b : Nat} {x y : Int} {u : Value} (h : BzF w b x y u) (t p : Int) (z : Value) : (put3 w b t p z).cell? ⟨b, 0, none⟩ = some (.int .i64 t) ∧ (put3 w b t p z).cell? ⟨b, 1, none⟩ = some (.int .i64 p) ∧ (put3 w b t p z).cell? ⟨b, 2, none⟩ = some z := by
  obtain ⟨c0, c1, c2, _⟩ := h.cells
  unfold put3
  refine ⟨?_, ?_, ?_⟩
  · exact (World.cell?_setCell_other _ _ _ _ (by simp)).trans ((World.cell?_setCell_other _ _ _ _ (by simp)).trans (World.cell?_setCell_same' _ _ _ (by rw [c0]; rfl)))
  · refine (World.cell?_setCell_other _ _ _ _ (by simp)).trans (World.cell?_setCell_same' _ _ _ ?_)
    rw [World.cell?_setCell_other _ _ _ _ (by simp), c1]; rfl
  · refine World.cell?_setCell_same' _ _ _ ?_
    rw [World.cell?_setCell_other _ _ _ _ (by simp), World.cell?_setCell_other _ _ _ _ (by simp), c2]; rfl
theorem put3_below {n : Nat} {w w' : World} (h : Below n w w') {b : Nat} (hb : n ≤ b) (t p : Int) (z : Value) : Below n w (put3 w' b t p z) :=
  ((h.setCell (p := ⟨b, 0, none⟩) hb _).setCell (p := ⟨b, 1, none⟩) hb _).setCell (p := ⟨b, 2, none⟩) hb _
theorem put3_size (w : World) (b : Nat) (t p : Int) (z : Value) : (put3 w b t p z).heap.size = w.heap.size := by simp [put3]
theorem put3_heap (w : World) (b : Nat) (t p : Int) (z : Value) {g : Nat} (hg : g ≠ b) : (put3 w b t p z).heap[g]? = w.heap[g]? := by
  unfold put3
  rw [Below.heap_setCell _ _ _ _ (by simpa using hg), Below.heap_setCell _ _ _ _ (by simpa using hg), Below.heap_setCell _ _ _ _ (by simpa using hg)]
theorem ClsAt.set2 {w : World} {B b : Nat} {v : Value} {qs : List Pt} (h : ClsAt w B v qs) (hb : b < B) (o : Nat) (u : Value) : ClsAt (w.setCell ⟨b, o, none⟩ u) B v qs := by
  refine ⟨h.1, ?_⟩
  rcases h.2 with hn | ⟨g, cap, cur, hv, hB, hg, r⟩
  · exact .inl hn
  · exact .inr ⟨g, cap, cur, hv, hB, (Below.heap_setCell _ _ _ _ (by simp; omega)).trans hg, r⟩
theorem BzF.set2 {w : World} {b c : Nat} {x y : Int} {z : Value} (h : BzF w b x y z) (hb : b ≠ c) (o : Nat) (u : Value) : BzF (w.setCell ⟨c, o, none⟩ u) b x y z :=
  ⟨h.1.of (by simp) (Below.heap_setCell _ _ _ _ (by simpa using hb)), fun o => by rw [World.frozen?_setCell]; exact h.2 o⟩
theorem BzF.kept2 {w w' : World} {b n : Nat} {x y : Int} {z : Value} (h : BzF w b x y z) (hb : Below n w w') (hn : b < n) : BzF w' b x y z :=
  ⟨h.1.of hb.size (hb.block b hn), fun o => (hb.frozen (p := ⟨b, o, none⟩) hn).trans (h.2 o)⟩
theorem BzF.put2 {w : World} {b : Nat} {x y : Int} {z : Value} (h : BzF w b x y z) (u : Value) : BzF (w.setCell ⟨b, 2, none⟩ u) b x y u := by
  obtain ⟨c0, c1, c2, _⟩ := h.cells
  exact ⟨⟨⟨(World.cell?_setCell_other _ _ _ _ (by simp)).trans c0, (World.cell?_setCell_other _ _ _ _ (by simp)).trans c1, World.cell?_setCell_same' _ _ _ (by rw [c2]; rfl)⟩, by simpa using h.1.2⟩, fun o => by rw [World.frozen?_setCell]; exact h.2 o⟩

theorem BzF.touch {w w' : World} {lo hi b : Nat} {x y : Int} {z : Value} (h : BzF w b x y z) (ht : Touch lo hi w w') (hd : b < lo ∨ hi ≤ b) : BzF w' b x y z :=
  ⟨h.1.touch ht hd, fun o => (World.frozen?_of_block (a := ⟨b, o, none⟩) (ht.block b h.1.2 hd)).trans (h.2 o)⟩
theorem ClsAt.touch {w w' : World} {lo hi B : Nat} {v : Value} {qs : List Pt} (h : ClsAt w B v qs) (ht : Touch lo hi w w') (hd : hi ≤ B) : ClsAt w' B v qs := by
  refine ⟨h.1, ?_⟩
  rcases h.2 with hn | ⟨g, cap, cur, hv, hB, hg, r⟩
  · exact .inl hn
  · exact .inr ⟨g, cap, cur, hv, hB, (ht.block g (Array.getElem?_eq_some_iff.1 hg).1 (.inr (by omega))).trans hg, r⟩

end Go.Proofs.YtgobjobppajkbaaDoor
