/-
  ROWS OF CLUES OF THE CALL's OWN: 'pzWithout' of the model, 'Grow', 'Concat', 'cluesWithout' of the program.
-/
import Derived.Test.YtkikmmnmppikpaaSls
import Derived.Test.YtkikmmnmppikpaaPzG
import Derived.Deep.RegionLaw
import Derived.Deep.RegionHeld3
import Derived.Deep.AppendLies
import Derived.Maps.AppendAt
import Derived.Lib.AppendZeros
import Derived.Deep.CutRange
namespace Go.Proofs.Ytkikmmnmppikpaa
open Go.RowKit
set_option linter.unusedVariables false

theorem step_append_own_at {P : Program} {ops : Array Oper} {o : Oper} {a : Act} {w : World} {K : Act → World → Prop} {Q : Exit → Act → World → Prop} {E : Prop} (hgd : o.guard = none) (s x : Operand) (t : TypeId)
    (ho : o.op = .call { callee := .builtin .append, args := #[s, x], argTypes := #[t, t] })
    (base : Nat) (e : TypeId) (i : TypeInfo) (z : Value) (size bytes : Nat) (ht : P.underlying t = some (.slice e)) (hi : P.info? e = some i) (hz : i.zero = some z)
    (hsize : i.size = size) (hby : i.bytes = bytes) (hzs : z.cells.size = size) (hsz : 0 < size)
    (v : Value) (n : Nat) (xs : List Value) (hs : a.eval s = v) (hown : w.ownsRow base e size v n xs)
    (ad : Addr) (m c : Nat) (news : List Value) (hx : a.eval x = .slice (some ad) m c) (hl : news.length = m * size) (hnews : ∀ j u, news[j]? = some u → w.cell? (ad.add j) = some u) (h1 : ∀ u ∈ news, u.oneCell' = true)
    (h63 : n + m ≤ maxLen) (hbytes : (n + m) * bytes ≤ 140737488355328) (hbase : base ≤ w.heap.size)
    (h : ∀ v' w', w'.ownsRow base e size v' (n + m) (xs ++ news) → w.grownBy w' v.ownBlock → (v'.ownBlock = v.ownBlock ∨ v'.ownBlock = some w.heap.size) → K (a.put o.dst v') w') :
    if Region.wanted o (yielded ops a.tmps) = true then Oper.wp P o a w K Q else E := by
  rw [if_pos (by simp [Region.wanted, hgd])]
  obtain ⟨v', w', hr, h2, h3, h4, h5⟩ := run_append_own_at (P := P) w base t o.type e i z size bytes ht hi hz hsize hby hzs hsz v n xs hown ad m c news hl hnews h1 h63 hbytes hbase
  unfold Oper.wp execOp
  simp only [ho, resolve, invoke, builtin, Sem.run_bind, Sem.run_pure, Result.andThen_ok, List.map_toArray, List.map_cons, List.map_nil, hs, hx, hr]
  exact h v' w' h2 h3 h5

theorem grown_below {w1 W w5 : World} {row : Option Nat} (hg : W.grownBy w5 row) (hb : Below w1.heap.size w1 W) (hr : ∀ k, row = some k → w1.heap.size ≤ k) : Below w1.heap.size w1 w5 := hb.grown hg hb.size hr
theorem below_up {w w1 W : World} (h1 : Below w.heap.size w w1) (hb : Below w1.heap.size w1 W) : Below w.heap.size w W := h1.trans (hb.mono h1.size)
/-- Clues as cells, one behind the other. -/
def ptCells (qs : List Pt) : List Value := qs.flatMap fun q => [.int .i64 q.1, .int .i64 q.2.1, .int .i64 q.2.2]
theorem ptCells_snoc (qs : List Pt) (q : Pt) : ptCells (qs ++ [q]) = ptCells qs ++ [.int .i64 q.1, .int .i64 q.2.1, .int .i64 q.2.2] := by simp [ptCells]
theorem ptCells_length (qs : List Pt) : (ptCells qs).length = qs.length * 3 := by
  induction qs with
  | nil => rfl
  | cons q qs ih => simp [ptCells] at ih ⊢; omega
theorem ptCells_at : ∀ (qs : List Pt) (k : Nat), k < qs.length → (ptCells qs)[k * 3]? = some (.int .i64 (qs.getD k pt0).1) ∧ (ptCells qs)[k * 3 + 1]? = some (.int .i64 (qs.getD k pt0).2.1) ∧ (ptCells qs)[k * 3 + 2]? = some (.int .i64 (qs.getD k pt0).2.2)
  | [], k, h => by simp at h
  | q :: qs, 0, h => by simp [ptCells]
  | q :: qs, k + 1, h => by
    have ih := ptCells_at qs k (by simpa using h)
    have e : ptCells (q :: qs) = [.int .i64 q.1, .int .i64 q.2.1, .int .i64 q.2.2] ++ ptCells qs := by simp [ptCells]
    rw [e, List.getElem?_append_right (by simp; omega), List.getElem?_append_right (by simp; omega), List.getElem?_append_right (by simp; omega)]
    simpa [show (k + 1) * 3 - 3 = k * 3 by omega, show (k + 1) * 3 + 1 - 3 = k * 3 + 1 by omega, show (k + 1) * 3 + 2 - 3 = k * 3 + 2 by omega] using ih
/-- A row of parts of the call's own. -/
def ClsAt (w : World) (B : Nat) (v : Value) (qs : List Pt) : Prop := w.ownsRow B 96 3 v qs.length (ptCells qs)
theorem clsAt_nil (w : World) (B : Nat) : ClsAt w B (.slice none 0 0) [] := World.ownsRow_nil _ _ _ _
theorem ClsAt.prow {w : World} {B : Nat} {v : Value} {qs : List Pt} (h : ClsAt w B v qs) : ∃ a c, v = .slice a qs.length c ∧ PRow w B w.heap.size a qs := by
  rcases h.2 with ⟨rfl, h0⟩ | ⟨g, cap, cur, rfl, hB, hg, hn, hm, _⟩
  · obtain rfl : qs = [] := List.eq_nil_of_length_eq_zero h0
    exact ⟨none, 0, rfl, fun h => (h rfl).elim⟩
  · refine ⟨_, cap, rfl, fun _ => ⟨g, rfl, hB, (Array.getElem?_eq_some_iff.1 hg).1, fun k hk => ⟨⟨?_, ?_, ?_⟩, World.ownsRow.frozenAt h _, World.ownsRow.frozenAt h _, World.ownsRow.frozenAt h _⟩⟩⟩
    · rw [World.ownsRow.cellAt h (k * 3) (by omega)]; exact (ptCells_at qs k hk).1
    · rw [World.ownsRow.cellAt h (k * 3 + 1) (by omega)]; exact (ptCells_at qs k hk).2.1
    · rw [World.ownsRow.cellAt h (k * 3 + 2) (by omega)]; exact (ptCells_at qs k hk).2.2
theorem three_new (w : World) (x y z : Value) (T : TypeId) {s : Nat} (hs : w.heap.size = s) {j : Nat} {u : Value} (h : [x, y, z][j]? = some u) : (w.alloc (.cells #[x, y, z] T)).cell? ((⟨s, 0, none⟩ : Addr).add j) = some u := by
  subst hs
  cases j with
  | zero => simp at h; subst h; simp [Addr.add]
  | succ j => cases j with
    | zero => simp at h; subst h; simp [Addr.add]
    | succ j => cases j with
      | zero => simp at h; subst h; simp [Addr.add]
      | succ j => simp at h

theorem ptCells_append (ps qs : List Pt) : ptCells (ps ++ qs) = ptCells ps ++ ptCells qs := by simp [ptCells]
theorem ptCells_one (ps : List Pt) : ∀ u ∈ ptCells ps, u.oneCell' = true := by
  intro u hu
  simp only [ptCells, List.mem_flatMap] at hu
  obtain ⟨q, _, hu⟩ := hu
  simp at hu
  rcases hu with rfl | rfl | rfl <;> rfl
theorem own_formP {w : World} {B : Nat} {v : Value} {n : Nat} {vs : List Value} {T : TypeId} (h : w.ownsRow B T 3 v n vs) : ∃ a cap, v = .slice a n cap := by
  rcases h.2 with ⟨rfl, rfl⟩ | ⟨g, cap, cur, hv, _⟩
  · exact ⟨none, 0, rfl⟩
  · exact ⟨_, cap, hv⟩


theorem clCells_src {w : World} {b off : Nat} {ps : List Pt} (h : ClIn w (some ⟨b, off, none⟩) ps) : ∀ j u, (ptCells ps)[j]? = some u → w.cell? ((⟨b, off, none⟩ : Addr).add j) = some u := by
  intro j u hu
  have hj : j < ps.length * 3 := by have := (List.getElem?_eq_some_iff.1 hu).1; rwa [ptCells_length] at this
  have e : ((⟨b, off, none⟩ : Addr).add j) = ⟨b, off + j, none⟩ := by simp [Addr.add]
  rw [e]
  clear e
  obtain ⟨k, hk⟩ : ∃ k, j / 3 = k := ⟨_, rfl⟩
  obtain ⟨c0, c1, c2⟩ := ptCells_at ps k (by omega)
  obtain ⟨b', off', e, _, k0, k1, k2⟩ := h k (by omega)
  simp only [Option.some.injEq, Addr.mk.injEq] at e
  obtain ⟨rfl, rfl, _⟩ := e
  have hm : j = k * 3 ∨ j = k * 3 + 1 ∨ j = k * 3 + 2 := by omega
  rcases hm with rfl | rfl | rfl
  · rw [c0] at hu; rw [← hu]; exact k0
  · rw [c1] at hu; rw [← hu, ← Nat.add_assoc]; exact k1
  · rw [c2] at hu; rw [← hu, ← Nat.add_assoc]; exact k2
/-- The row, its room, and where it lies. -/
theorem ClsAt.row {w : World} {B : Nat} {v : Value} {qs : List Pt} (h : ClsAt w B v qs) : ∃ a c, v = .slice a qs.length c ∧ (qs.length ≤ c ∧ c ≤ maxLen) ∧ PRow w B w.heap.size a qs := by
  rcases h.2 with ⟨rfl, h0⟩ | ⟨g, cap, cur, rfl, hB, hg, hn, hm, _⟩
  · obtain rfl : qs = [] := List.eq_nil_of_length_eq_zero h0
    exact ⟨none, 0, rfl, ⟨Nat.le_refl _, Nat.zero_le _⟩, fun h => (h rfl).elim⟩
  · obtain ⟨a, c, e, hp⟩ := h.prow
    cases e
    exact ⟨_, cap, rfl, ⟨hn, hm⟩, hp⟩
theorem ClsAt.cl {w : World} {B : Nat} {v : Value} {qs : List Pt} (h : ClsAt w B v qs) : ∃ a c, v = .slice a qs.length c ∧ (qs.length ≤ c ∧ c ≤ maxLen) ∧ ClIn w a qs := by
  obtain ⟨a, c, rfl, h1, h2⟩ := h.row
  exact ⟨a, c, rfl, h1, h2.cl (Nat.le_refl _)⟩
/-- A row of clues that the call has made. -/
def RetCls (xs : List Pt) (w : World) (e : Ending) (w' : World) : Prop := ∃ v, e = .returned v ∧ ClsAt w' w.heap.size v xs ∧ Below w.heap.size w w'
/-- Clues without one. -/
def clW (ps : List Pt) (k : Nat) : List Pt := ps.take k ++ ps.drop (k + 1)
theorem clW_length {ps : List Pt} {k : Nat} (h : k < ps.length) : (clW ps k).length = k + (ps.length - (k + 1)) := by
  unfold clW
  rw [List.length_append, List.length_take, List.length_drop]
  omega
theorem clW_all {ps : List Pt} {f : Pt → Bool} (k : Nat) (h : ps.all f = true) : (clW ps k).all f = true := by
  rw [List.all_eq_true] at h ⊢
  intro x hx
  unfold clW at hx
  rw [List.mem_append] at hx
  rcases hx with hx | hx
  · exact h x (List.mem_of_mem_take hx)
  · exact h x (List.mem_of_mem_drop hx)

end Go.Proofs.Ytkikmmnmppikpaa
