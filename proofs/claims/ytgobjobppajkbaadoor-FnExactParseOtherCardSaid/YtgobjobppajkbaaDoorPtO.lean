/-
  ROWS OF PARTS OF THE CALL's OWN, A BOX OF AN OTHER MAP (gen_pto.py): what reading an other map needs.
-/
import Derived.Test.YtgobjobppajkbaaDoorPt
import Derived.Test.YtgobjobppajkbaaDoorSplI
import Derived.Test.YtgobjobppajkbaaDoorCutC
import Derived.Test.YtgobjobppajkbaaDoorRoundW
import Derived.Deep.AppendLies
import Derived.Maps.AppendAt
namespace Go.Proofs.YtgobjobppajkbaaDoor
open Go.RowKit Go.Shelf
attribute [local go_sem] Oper.semAt_some
set_option linter.unusedVariables false

theorem spB_len (c : UInt8) (s : ByteArray) : (spB c s).length ≤ s.size + 1 := by
  rw [spB, List.length_map, bsize]; exact spl_len c _
theorem spB_mem (c : UInt8) (s : ByteArray) : ∀ x ∈ spB c s, x.size ≤ s.size := by
  intro x hx
  rw [spB, List.mem_map] at hx
  obtain ⟨p, hp, rfl⟩ := hx
  rw [byt_size, bsize]
  exact spl_mem c _ p hp

theorem step_append_rd {P : Program} {ops : Array Oper} {o : Oper} {a : Act} {w : World} {K : Act → World → Prop} {Q : Exit → Act → World → Prop} {E : Prop} (hgd : o.guard = none) (s x : Operand) (t : TypeId)
    (ho : o.op = .call { callee := .builtin .append, args := #[s, x], argTypes := #[t, t] })
    (base : Nat) (e : TypeId) (i : TypeInfo) (z : Value) (size bytes : Nat) (ht : P.underlying t = some (.slice e)) (hi : P.info? e = some i) (hz : i.zero = some z)
    (hsize : i.size = size) (hby : i.bytes = bytes) (hzs : z.cells.size = size) (hsz : 0 < size)
    (v : Value) (n : Nat) (xs : List Value) (hs : a.eval s = v) (hown : w.ownsRow base e size v n xs)
    (ad : Addr) (m c : Nat) (news : List Value) (hx : a.eval x = .slice (some ad) m c) (hl : news.length = m * size) (hnews : ∀ j u, news[j]? = some u → w.cell? (ad.add j) = some u) (h1 : ∀ u ∈ news, u.oneCell' = true)
    (h63 : n + m ≤ maxLen) (hbytes : (n + m) * bytes ≤ 140737488355328) (hbase : base ≤ w.heap.size)
    (h : ∀ v' w', w'.ownsRow base e size v' (n + m) (xs ++ news) → w.grownBy w' v.ownBlock → (v'.ownBlock = v.ownBlock ∨ v'.ownBlock = some w.heap.size) → K (a.put o.dst v') w') :
    if Region.wanted o (yielded ops a.tmps) = true then Oper.wp P o a w K Q else E := by
  rw [if_pos (by simp [Region.wanted, hgd])]
  obtain ⟨v', w', hr, h2, h3, h4, h5⟩ := run_append_own_at (P := P) w base t o.type e i z size bytes ht hi hz hsize hby hzs hsz v n xs hown ad m c news hl hnews h1 h63 hbytes hbase
  unfold Oper.wp execOp
  simp only [ho, resolve, invoke, builtin, Sem.run_bind, Sem.run_pure, Result.andThen_ok, List.map_toArray, List.map_cons, List.map_nil, hs, hx, hr]
  exact h v' w' h2 h3 h5

/-- What lay below N but for one block is as it was. -/
structure KpA (N m : Nat) (A C : World) : Prop where
  os : C.os = A.os
  tape : C.tape = A.tape
  output : C.output = A.output
  size : A.heap.size ≤ C.heap.size
  block : ∀ g, g < N → g ≠ m → C.heap[g]? = A.heap[g]?
theorem KpA.of_below {N m : Nat} {A C : World} (hb : Below A.heap.size A C) (hN : N ≤ A.heap.size) : KpA N m A C := ⟨hb.os, hb.tape, hb.output, hb.size, fun g hg _ => hb.block g (by omega)⟩
theorem KpA.trans {N m : Nat} {A B C : World} (h : KpA N m A B) (k : KpA N m B C) : KpA N m A C :=
  ⟨k.os.trans h.os, k.tape.trans h.tape, k.output.trans h.output, Nat.le_trans h.size k.size, fun g hg hn => (k.block g hg hn).trans (h.block g hg hn)⟩
theorem KpA.grown {N m : Nat} {W C : World} {row : Option Nat} (h : W.grownBy C row) (hN : N ≤ W.heap.size) (hr : ∀ k, row = some k → N ≤ k) : KpA N m W C :=
  ⟨h.os, h.tape, h.output, h.size, fun g hg _ => h.block g (by omega) (fun e => by have := hr g e.symm; omega)⟩
theorem KpA.set {N m : Nat} {A C : World} (h : KpA N m A C) (k : Nat) (v : Value) : KpA N m A (C.setCell ⟨m, k, none⟩ v) :=
  ⟨h.os, h.tape, h.output, by simpa using h.size, fun g hg hn => (Below.heap_setCell _ _ _ _ (by simpa using hn)).trans (h.block g hg hn)⟩
theorem KpA.below {N m n : Nat} {A C : World} (h : KpA N m A C) (h1 : n ≤ N) (h2 : n ≤ m) : Below n A C := ⟨h.os, h.tape, h.output, h.size, fun g hg => h.block g (by omega) (by omega)⟩
/-- Parts as cells, one behind the other. -/
def ptCells (qs : List Pt) : List Value := qs.flatMap fun q => [.int .i64 q.1, .int .i64 q.2.1, .int .i64 q.2.2]
theorem ptCells_snoc (qs : List Pt) (q : Pt) : ptCells (qs ++ [q]) = ptCells qs ++ [.int .i64 q.1, .int .i64 q.2.1, .int .i64 q.2.2] := by simp [ptCells]
theorem ptCells_length (qs : List Pt) : (ptCells qs).length = qs.length * 3 := by
  induction qs with
  | nil => rfl
  | cons q qs ih => simp [ptCells] at ih ⊢; omega
theorem ptCells_at : ∀ (qs : List Pt) (k : Nat), k < qs.length → (ptCells qs)[k * 3]? = some (.int .i64 (qs.getD k pt0).1) ∧ (ptCells qs)[k * 3 + 1]? = some (.int .i64 (qs.getD k pt0).2.1) ∧ (ptCells qs)[k * 3 + 2]? = some (.int .i64 (qs.getD k pt0).2.2)
  | [], k, h => by simp at h
  | q :: qs, 0, h => by simp [ptCells]
  | q :: qs, k + 1, h => by
    have ih := ptCells_at qs k (by simpa using h)
    have e : ptCells (q :: qs) = [.int .i64 q.1, .int .i64 q.2.1, .int .i64 q.2.2] ++ ptCells qs := by simp [ptCells]
    rw [e, List.getElem?_append_right (by simp; omega), List.getElem?_append_right (by simp; omega), List.getElem?_append_right (by simp; omega)]
    simpa [show (k + 1) * 3 - 3 = k * 3 by omega, show (k + 1) * 3 + 1 - 3 = k * 3 + 1 by omega, show (k + 1) * 3 + 2 - 3 = k * 3 + 2 by omega] using ih
/-- A row of parts of the call's own. -/
def PtsAt (w : World) (B : Nat) (v : Value) (qs : List Pt) : Prop := w.ownsRow B 118 3 v qs.length (ptCells qs)
theorem ptsAt_nil (w : World) (B : Nat) : PtsAt w B (.slice none 0 0) [] := World.ownsRow_nil _ _ _ _
theorem PtsAt.prow {w : World} {B : Nat} {v : Value} {qs : List Pt} (h : PtsAt w B v qs) : ∃ a c, v = .slice a qs.length c ∧ PRow w B w.heap.size a qs := by
  rcases h.2 with ⟨rfl, h0⟩ | ⟨g, cap, cur, rfl, hB, hg, hn, hm, _⟩
  · obtain rfl : qs = [] := List.eq_nil_of_length_eq_zero h0
    exact ⟨none, 0, rfl, fun h => (h rfl).elim⟩
  · refine ⟨_, cap, rfl, fun _ => ⟨g, rfl, hB, (Array.getElem?_eq_some_iff.1 hg).1, fun k hk => ⟨⟨?_, ?_, ?_⟩, World.ownsRow.frozenAt h _, World.ownsRow.frozenAt h _, World.ownsRow.frozenAt h _⟩⟩⟩
    · rw [World.ownsRow.cellAt h (k * 3) (by omega)]; exact (ptCells_at qs k hk).1
    · rw [World.ownsRow.cellAt h (k * 3 + 1) (by omega)]; exact (ptCells_at qs k hk).2.1
    · rw [World.ownsRow.cellAt h (k * 3 + 2) (by omega)]; exact (ptCells_at qs k hk).2.2
theorem three_new (w : World) (x y z : Value) (T : TypeId) {s : Nat} (hs : w.heap.size = s) {j : Nat} {u : Value} (h : [x, y, z][j]? = some u) : (w.alloc (.cells #[x, y, z] T)).cell? ((⟨s, 0, none⟩ : Addr).add j) = some u := by
  subst hs
  cases j with
  | zero => simp at h; subst h; simp [Addr.add]
  | succ j => cases j with
    | zero => simp at h; subst h; simp [Addr.add]
    | succ j => cases j with
      | zero => simp at h; subst h; simp [Addr.add]
      | succ j => simp at h

theorem ptCells_append (ps qs : List Pt) : ptCells (ps ++ qs) = ptCells ps ++ ptCells qs := by simp [ptCells]
theorem ptCells_one (ps : List Pt) : ∀ u ∈ ptCells ps, u.oneCell' = true := by
  intro u hu
  simp only [ptCells, List.mem_flatMap] at hu
  obtain ⟨q, _, hu⟩ := hu
  simp at hu
  rcases hu with rfl | rfl | rfl <;> rfl
theorem own_formP {w : World} {B : Nat} {v : Value} {n : Nat} {vs : List Value} {T : TypeId} (h : w.ownsRow B T 3 v n vs) : ∃ a cap, v = .slice a n cap := by
  rcases h.2 with ⟨rfl, rfl⟩ | ⟨g, cap, cur, hv, _⟩
  · exact ⟨none, 0, rfl⟩
  · exact ⟨_, cap, hv⟩


theorem PtsAt.set2 {w : World} {B b : Nat} {v : Value} {qs : List Pt} (h : PtsAt w B v qs) (hb : b < B) (o : Nat) (u : Value) : PtsAt (w.setCell ⟨b, o, none⟩ u) B v qs := by
  refine ⟨h.1, ?_⟩
  rcases h.2 with hn | ⟨g, cap, cur, hv, hB, hg, r⟩
  · exact .inl hn
  · exact .inr ⟨g, cap, cur, hv, hB, (Below.heap_setCell _ _ _ _ (by simp; omega)).trans hg, r⟩
theorem PtsAt.touch {w w' : World} {lo hi B : Nat} {v : Value} {qs : List Pt} (h : PtsAt w B v qs) (ht : Touch lo hi w w') (hd : hi ≤ B) : PtsAt w' B v qs := by
  refine ⟨h.1, ?_⟩
  rcases h.2 with hn | ⟨g, cap, cur, hv, hB, hg, r⟩
  · exact .inl hn
  · exact .inr ⟨g, cap, cur, hv, hB, (ht.block g (Array.getElem?_eq_some_iff.1 hg).1 (.inr (by omega))).trans hg, r⟩


/-- A box of an other map that may be written. -/
def BoF (w : World) (b : Nat) (x : Value) : Prop := Bo w b x ∧ w.frozen? ⟨b, 0, none⟩ = false
theorem BoF.kept {w w' : World} {b : Nat} {x : Value} (h : BoF w b x) (hb : Below w.heap.size w w') : BoF w' b x := ⟨h.1.kept hb, (hb.frozen (p := ⟨b, 0, none⟩) h.1.2).trans h.2⟩
theorem BoF.kept2 {w w' : World} {b n : Nat} {x : Value} (h : BoF w b x) (hb : Below n w w') (hn : b < n) : BoF w' b x := ⟨h.1.of hb.size (hb.block b hn), (hb.frozen (p := ⟨b, 0, none⟩) hn).trans h.2⟩
theorem BoF.of {w w' : World} {b : Nat} {x : Value} (h : BoF w b x) (hs : w.heap.size ≤ w'.heap.size) (he : w'.heap[b]? = w.heap[b]?) : BoF w' b x := ⟨h.1.of hs he, (World.frozen?_of_block (a := ⟨b, 0, none⟩) he).trans h.2⟩
theorem BoF.touch {w w' : World} {lo hi b : Nat} {x : Value} (h : BoF w b x) (ht : Touch lo hi w w') (hd : b < lo ∨ hi ≤ b) : BoF w' b x := h.of ht.size (ht.block b h.1.2 hd)
theorem BoF.new (w : World) (x : Value) (T : TypeId) {b : Nat} (hb : w.heap.size = b) : BoF (w.alloc (.cells #[x] T)) b x := by
  subst hb
  exact ⟨Bo.new w x T, by go_simp⟩
theorem BoF.set {w : World} {b : Nat} {x : Value} (h : BoF w b x) (z : Value) : BoF (w.setCell ⟨b, 0, none⟩ z) b z :=
  ⟨⟨World.cell?_setCell_same' _ _ _ (by rw [h.1.1]; rfl), by simpa using h.1.2⟩, by rw [World.frozen?_setCell]; exact h.2⟩
theorem BoF.set2 {w : World} {b c : Nat} {x : Value} (h : BoF w b x) (hb : b ≠ c) (o : Nat) (u : Value) : BoF (w.setCell ⟨c, o, none⟩ u) b x := h.of (by simp) (Below.heap_setCell _ _ _ _ (by simpa using hb))
theorem BoF.cells {w : World} {b : Nat} {x : Value} (h : BoF w b x) : w.cell? ⟨b, 0, none⟩ = some x ∧ w.frozen? ⟨b, 0, none⟩ = false := ⟨h.1.1, h.2⟩
theorem setO_heap (w : World) (b : Nat) (z : Value) {g : Nat} (hg : g ≠ b) : (w.setCell ⟨b, 0, none⟩ z).heap[g]? = w.heap[g]? := Below.heap_setCell _ _ _ _ (by simpa using hg)
theorem othAt_none {w : World} {lo hi : Nat} (h : hi ≤ w.heap.size) : OthAt w lo hi (.agg #[.slice none 0 0]) [] := ⟨h, none, 0, rfl, fun h => (h rfl).elim⟩
theorem ptsO_oth {w : World} {B lo : Nat} {v : Value} {qs : List Pt} (h : PtsAt w B v qs) (hl : lo ≤ B) : OthAt w lo w.heap.size (.agg #[v]) qs := by
  obtain ⟨a, c, rfl, h2⟩ := h.prow
  exact ⟨Nat.le_refl _, a, c, rfl, h2.wide hl (Nat.le_refl _)⟩
theorem leafO {w4 wa w5 : World} {P B : Nat} {u v5 : Value} {qs : List Pt} {q : Pt} (h : PtsAt w4 B u qs) (hx : BoF w4 P u) (hPB : P < B) (hB : B ≤ w4.heap.size) (hba : Below w4.heap.size w4 wa)
    (hown : w5.ownsRow B 118 3 v5 (qs.length + 1) (ptCells qs ++ [.int .i64 q.1, .int .i64 q.2.1, .int .i64 q.2.2])) (hg : (wa.alloc (.cells #[.int .i64 q.1, .int .i64 q.2.1, .int .i64 q.2.2] 118)).grownBy w5 u.ownBlock) :
    PtsAt w5 B v5 (qs ++ [q]) ∧ BoF w5 P u ∧ KpA B P w4 w5 := by
  have hb : Below w4.heap.size w4 (wa.alloc (.cells #[.int .i64 q.1, .int .i64 q.2.1, .int .i64 q.2.2] 118)) := hba.trans ((below_new wa _).mono hba.size)
  have hz := hb.size
  have hlt := hx.1.2
  have hr : ∀ k, u.ownBlock = some k → B ≤ k := fun k e => (World.ownsRow.lt h k e).1
  refine ⟨?_, hx.of (Nat.le_trans hz hg.size) ((hg.block P (by omega) (fun e => by have := hr P e.symm; omega)).trans (hb.block P hlt)), (KpA.of_below hb hB).trans (KpA.grown hg (by omega) hr)⟩
  unfold PtsAt
  rw [ptCells_snoc, List.length_append]
  exact hown
/-- An other map and a flag. -/
def RetO (xs : List Pt) (ok : Bool) (w : World) (e : Ending) (w' : World) : Prop :=
  ∃ v, e = .returned (.tuple #[v, .bool ok]) ∧ OthAt w' w.heap.size w'.heap.size v xs ∧ Below w.heap.size w w'
end Go.Proofs.YtgobjobppajkbaaDoor
