/-
  THE NEGATIVE OF AN OTHER MAP: plain mathematics; rows of parts of the call's own.
-/
import Derived.Test.YtkikmmnmppikpaaOfM
import Derived.Test.YtkikmmnmppikpaaOtI
import Derived.Test.YtkikmmnmppikpaaOs
import Derived.Test.YtkikmmnmppikpaaRem
import Derived.Deep.RegionWith
import Derived.Deep.CutRange
namespace Go.Proofs.Ytkikmmnmppikpaa
open Go.RowKit
set_option linter.unusedVariables false

/-- A part with Plus of the other sign. -/
def ptNeg (q : Pt) : Pt := (q.1, -q.2.1, q.2.2)
/-- The place of the residue of -r. -/
def ngR (m r : Nat) : Nat := res m (-(r : Int))
theorem ngR_lt {m : Nat} (r : Nat) (h : 1 ≤ m) : ngR m r < m := res_lt _ h
theorem ngR_back {m r : Nat} (h : r < m) : ngR m (ngR m r) = r := by
  have h1 : ((ngR m r : Nat) : Int) = (-(r : Int)) % (m : Int) := res_cast _ (by omega)
  have h2 : ((ngR m (ngR m r) : Nat) : Int) = (-((ngR m r : Nat) : Int)) % (m : Int) := res_cast _ (by omega)
  have e : (-((-(r : Int)) % (m : Int))) % (m : Int) = (r : Int) := by
    have a := Int.mul_ediv_add_emod (-(r : Int)) (m : Int)
    have b : -((-(r : Int)) % (m : Int)) = (r : Int) + (m : Int) * ((-(r : Int)) / (m : Int)) := by omega
    rw [b, Int.add_mul_emod_self_left, Int.emod_eq_of_lt (by omega) (by omega)]
  rw [h1, e] at h2
  omega
/-- The negative one. -/
def ngL (ps : List Pt) : List Pt := (List.range ps.length).map fun r => ptNeg (ps.getD (ngR ps.length r) pt0)
theorem ngL_length (ps : List Pt) : (ngL ps).length = ps.length := by simp [ngL]
theorem ngL_at {ps : List Pt} {r : Nat} (h : r < ps.length) : (ngL ps).getD r pt0 = ptNeg (ps.getD (ngR ps.length r) pt0) := by
  simp [ngL, List.getD_eq_getElem?_getD, h]
def ngX (ps : List Pt) : List Pt := if omB ps = true then ngL ps else []
theorem ngX_len (ps : List Pt) (hl : ps.length ≤ 1048576) : (ngX ps).length ≤ 1048576 := by
  unfold ngX
  split
  · rw [ngL_length]; exact hl
  · simp
/-- The first j of it. -/
def ngT (ps : List Pt) (j : Nat) : List Pt := (ngL ps).take j
theorem ngT_succ {ps : List Pt} {j : Nat} (h : j < ps.length) : ngT ps (j + 1) = ngT ps j ++ [ptNeg (ps.getD (ngR ps.length j) pt0)] := by
  unfold ngT
  rw [List.take_add_one, List.getElem?_eq_getElem (by rw [ngL_length]; exact h), ← ngL_at h, List.getD_eq_getElem?_getD, List.getElem?_eq_getElem (by rw [ngL_length]; exact h)]
  rfl
theorem ngT_len {ps : List Pt} {j : Nat} (h : j ≤ ps.length) : (ngT ps j).length = j := by
  unfold ngT
  rw [List.length_take, ngL_length]; omega
theorem ngT_all (ps : List Pt) : ngT ps ps.length = ngL ps := by
  unfold ngT
  rw [List.take_of_length_le (by rw [ngL_length]; exact Nat.le_refl _)]
/-- The row as it is filled from the other end: what stands at place i behind j residues. -/
def ngS (ps : List Pt) (j i : Nat) : Pt := if ngR ps.length i < j then ptNeg (ps.getD (ngR ps.length i) pt0) else pt0
theorem ngS_zero (ps : List Pt) (i : Nat) : ngS ps 0 i = pt0 := by simp [ngS]
theorem ngS_same {ps : List Pt} {j : Nat} (h : j < ps.length) : ngS ps (j + 1) (ngR ps.length j) = ptNeg (ps.getD j pt0) := by
  unfold ngS
  rw [ngR_back h, if_pos (by omega)]
theorem ngS_other {ps : List Pt} {j i : Nat} (hi : i < ps.length) (h : i ≠ ngR ps.length j) : ngS ps (j + 1) i = ngS ps j i := by
  unfold ngS
  have hne : ngR ps.length i ≠ j := by
    intro e
    have := ngR_back hi
    rw [e] at this
    exact h this.symm
  by_cases h1 : ngR ps.length i < j
  · rw [if_pos h1, if_pos (by omega)]
  · rw [if_neg h1, if_neg (by omega)]
theorem ngS_all {ps : List Pt} {i : Nat} (hi : i < ps.length) : ngS ps ps.length i = (ngL ps).getD i pt0 := by
  rw [ngL_at hi, ngS, if_pos (ngR_lt _ (by omega))]

/-- Parts as cells, one behind the other. -/
def ptCells (qs : List Pt) : List Value := qs.flatMap fun q => [.int .i64 q.1, .int .i64 q.2.1, .int .i64 q.2.2]
theorem ptCells_snoc (qs : List Pt) (q : Pt) : ptCells (qs ++ [q]) = ptCells qs ++ [.int .i64 q.1, .int .i64 q.2.1, .int .i64 q.2.2] := by simp [ptCells]
theorem ptCells_length (qs : List Pt) : (ptCells qs).length = qs.length * 3 := by
  induction qs with
  | nil => rfl
  | cons q qs ih => simp [ptCells] at ih ⊢; omega
theorem ptCells_at : ∀ (qs : List Pt) (k : Nat), k < qs.length → (ptCells qs)[k * 3]? = some (.int .i64 (qs.getD k pt0).1) ∧ (ptCells qs)[k * 3 + 1]? = some (.int .i64 (qs.getD k pt0).2.1) ∧ (ptCells qs)[k * 3 + 2]? = some (.int .i64 (qs.getD k pt0).2.2)
  | [], k, h => by simp at h
  | q :: qs, 0, h => by simp [ptCells]
  | q :: qs, k + 1, h => by
    have ih := ptCells_at qs k (by simpa using h)
    have e : ptCells (q :: qs) = [.int .i64 q.1, .int .i64 q.2.1, .int .i64 q.2.2] ++ ptCells qs := by simp [ptCells]
    rw [e, List.getElem?_append_right (by simp; omega), List.getElem?_append_right (by simp; omega), List.getElem?_append_right (by simp; omega)]
    simpa [show (k + 1) * 3 - 3 = k * 3 by omega, show (k + 1) * 3 + 1 - 3 = k * 3 + 1 by omega, show (k + 1) * 3 + 2 - 3 = k * 3 + 2 by omega] using ih
/-- A row of parts of the call's own. -/
def PtsAt (w : World) (B : Nat) (v : Value) (qs : List Pt) : Prop := w.ownsRow B 88 3 v qs.length (ptCells qs)
theorem ptsAt_nil (w : World) (B : Nat) : PtsAt w B (.slice none 0 0) [] := World.ownsRow_nil _ _ _ _
theorem PtsAt.prow {w : World} {B : Nat} {v : Value} {qs : List Pt} (h : PtsAt w B v qs) : ∃ a c, v = .slice a qs.length c ∧ PRow w B w.heap.size a qs := by
  rcases h.2 with ⟨rfl, h0⟩ | ⟨g, cap, cur, rfl, hB, hg, hn, hm, _⟩
  · obtain rfl : qs = [] := List.eq_nil_of_length_eq_zero h0
    exact ⟨none, 0, rfl, fun h => (h rfl).elim⟩
  · refine ⟨_, cap, rfl, fun _ => ⟨g, rfl, hB, (Array.getElem?_eq_some_iff.1 hg).1, fun k hk => ⟨⟨?_, ?_, ?_⟩, World.ownsRow.frozenAt h _, World.ownsRow.frozenAt h _, World.ownsRow.frozenAt h _⟩⟩⟩
    · rw [World.ownsRow.cellAt h (k * 3) (by omega)]; exact (ptCells_at qs k hk).1
    · rw [World.ownsRow.cellAt h (k * 3 + 1) (by omega)]; exact (ptCells_at qs k hk).2.1
    · rw [World.ownsRow.cellAt h (k * 3 + 2) (by omega)]; exact (ptCells_at qs k hk).2.2
theorem three_new (w : World) (x y z : Value) (T : TypeId) {s : Nat} (hs : w.heap.size = s) {j : Nat} {u : Value} (h : [x, y, z][j]? = some u) : (w.alloc (.cells #[x, y, z] T)).cell? ((⟨s, 0, none⟩ : Addr).add j) = some u := by
  subst hs
  cases j with
  | zero => simp at h; subst h; simp [Addr.add]
  | succ j => cases j with
    | zero => simp at h; subst h; simp [Addr.add]
    | succ j => cases j with
      | zero => simp at h; subst h; simp [Addr.add]
      | succ j => simp at h

end Go.Proofs.Ytkikmmnmppikpaa
