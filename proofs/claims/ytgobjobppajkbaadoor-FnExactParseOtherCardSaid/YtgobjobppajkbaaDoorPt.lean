/-
  ROWS OF PARTS: three cells each; what the laws do to an other map: its size, a copy, comparing, marking, holding.
-/
import Derived.Test.YtgobjobppajkbaaDoorLists
import Derived.Test.YtgobjobppajkbaaDoorOmM
import Derived.OwnWalk
import Derived.WalkLawsBesides
import Derived.BigQuiet
import Derived.Deep.QuietTactic
import Derived.Deep.RegionWith
namespace Go.Proofs.YtgobjobppajkbaaDoor
open Go.RowKit
set_option linter.unusedVariables false

/-- A part's cells, from the offset o on. -/
def PtCell (w : World) (g o : Nat) (q : Pt) : Prop :=
  w.cell? ⟨g, o, none⟩ = some (.int .i64 q.1) ∧ w.cell? ⟨g, o + 1, none⟩ = some (.int .i64 q.2.1) ∧ w.cell? ⟨g, o + 2, none⟩ = some (.int .i64 q.2.2)
def PtFree (w : World) (g o : Nat) : Prop :=
  w.frozen? ⟨g, o, none⟩ = false ∧ w.frozen? ⟨g, o + 1, none⟩ = false ∧ w.frozen? ⟨g, o + 2, none⟩ = false
theorem PtCell.of {w w' : World} {g o : Nat} {q : Pt} (h : PtCell w g o q) (he : w'.heap[g]? = w.heap[g]?) : PtCell w' g o q :=
  ⟨(World.cell?_of_block (a := ⟨g, _, none⟩) he).trans h.1, (World.cell?_of_block (a := ⟨g, _, none⟩) he).trans h.2.1, (World.cell?_of_block (a := ⟨g, _, none⟩) he).trans h.2.2⟩
theorem PtFree.of {w w' : World} {g o : Nat} (h : PtFree w g o) (he : w'.heap[g]? = w.heap[g]?) : PtFree w' g o :=
  ⟨(World.frozen?_of_block (a := ⟨g, _, none⟩) he).trans h.1, (World.frozen?_of_block (a := ⟨g, _, none⟩) he).trans h.2.1, (World.frozen?_of_block (a := ⟨g, _, none⟩) he).trans h.2.2⟩
/-- A row of parts that begins a block. -/
def PtRow (w : World) (g : Nat) (ps : List Pt) : Prop := ∀ j, j < ps.length → PtCell w g (j * 3) (ps.getD j pt0) ∧ PtFree w g (j * 3)
theorem PtRow.of {w w' : World} {g : Nat} {ps : List Pt} (h : PtRow w g ps) (he : w'.heap[g]? = w.heap[g]?) : PtRow w' g ps :=
  fun j hj => ⟨(h j hj).1.of he, (h j hj).2.of he⟩
/-- A slice of parts that lies in a block from lo on, below hi, if it is not empty. -/
def PRow (w : World) (lo hi : Nat) (a : Option Addr) (ps : List Pt) : Prop := ps ≠ [] → ∃ g, a = some ⟨g, 0, none⟩ ∧ lo ≤ g ∧ g < hi ∧ PtRow w g ps
theorem PRow.of {w w' : World} {lo hi : Nat} {a : Option Addr} {ps : List Pt} (h : PRow w lo hi a ps) (he : ∀ g, lo ≤ g → g < hi → w'.heap[g]? = w.heap[g]?) : PRow w' lo hi a ps := by
  intro hn
  obtain ⟨g, rfl, h1, h2, h3⟩ := h hn
  exact ⟨g, rfl, h1, h2, h3.of (he g h1 h2)⟩
theorem PRow.wide {w : World} {lo hi lo' hi' : Nat} {a : Option Addr} {ps : List Pt} (h : PRow w lo hi a ps) (h1 : lo' ≤ lo) (h2 : hi ≤ hi') : PRow w lo' hi' a ps := by
  intro hn
  obtain ⟨g, rfl, a1, a2, a3⟩ := h hn
  exact ⟨g, rfl, by omega, by omega, a3⟩
/-- A slice that reads as ps. -/
def PartsIn (w : World) (v : Value) (ps : List Pt) : Prop := ∃ a cap, v = .slice a ps.length cap ∧ PRow w 0 w.heap.size a ps
theorem PartsIn.kept {w w' : World} {v : Value} {ps : List Pt} (h : PartsIn w v ps) (hb : Below w.heap.size w w') : PartsIn w' v ps := by
  obtain ⟨a, cap, rfl, hx⟩ := h
  exact ⟨a, cap, rfl, (hx.of (fun g _ hg => hb.block g hg)).wide (Nat.le_refl _) hb.size⟩
theorem PartsIn.rd {w : World} {v : Value} {ps : List Pt} (h : PartsIn w v ps) : ∃ a cap, v = .slice a ps.length cap ∧ ∀ j, j < ps.length → ∃ g, a = some ⟨g, 0, none⟩ ∧ g < w.heap.size ∧ PtCell w g (j * 3) (ps.getD j pt0) := by
  obtain ⟨a, cap, rfl, hx⟩ := h
  refine ⟨a, cap, rfl, fun j hj => ?_⟩
  obtain ⟨g, rfl, _, h1, h2⟩ := hx (by rintro rfl; simp at hj)
  exact ⟨g, rfl, h1, (h2 j hj).1⟩
/-- An other map that can be read. -/
def OthIn (w : World) (v : Value) (ps : List Pt) : Prop := ∃ u, v = .agg #[u] ∧ PartsIn w u ps
theorem OthIn.kept {w w' : World} {v : Value} {ps : List Pt} (h : OthIn w v ps) (hb : Below w.heap.size w w') : OthIn w' v ps := by
  obtain ⟨u, rfl, h1⟩ := h
  exact ⟨u, rfl, h1.kept hb⟩
theorem OthIn.rd {w : World} {v : Value} {ps : List Pt} (h : OthIn w v ps) : ∃ a cap, v = .agg #[.slice a ps.length cap] ∧ ∀ j, j < ps.length → ∃ g, a = some ⟨g, 0, none⟩ ∧ g < w.heap.size ∧ PtCell w g (j * 3) (ps.getD j pt0) := by
  obtain ⟨u, rfl, h1⟩ := h
  obtain ⟨a, cap, rfl, h2⟩ := h1.rd
  exact ⟨a, cap, rfl, h2⟩
/-- An other map of the call's own, its parts in a block from lo on, below hi. -/
def OthAt (w : World) (lo hi : Nat) (v : Value) (ps : List Pt) : Prop := hi ≤ w.heap.size ∧ ∃ a c, v = .agg #[.slice a ps.length c] ∧ PRow w lo hi a ps
theorem OthAt.of {w w' : World} {lo hi : Nat} {v : Value} {ps : List Pt} (h : OthAt w lo hi v ps) (hs : w.heap.size ≤ w'.heap.size) (he : ∀ g, lo ≤ g → g < hi → w'.heap[g]? = w.heap[g]?) : OthAt w' lo hi v ps := by
  obtain ⟨h1, a1, c1, rfl, h2⟩ := h
  exact ⟨Nat.le_trans h1 hs, a1, c1, rfl, h2.of he⟩
theorem OthAt.kept {w w' : World} {lo hi : Nat} {v : Value} {ps : List Pt} (h : OthAt w lo hi v ps) (hb : Below w.heap.size w w') : OthAt w' lo hi v ps :=
  h.of hb.size (fun g _ hg => hb.block g (Nat.lt_of_lt_of_le hg h.1))
theorem OthAt.touch {w w' : World} {lo hi lo' hi' : Nat} {v : Value} {ps : List Pt} (h : OthAt w lo hi v ps) (ht : Touch lo' hi' w w') (hd : hi ≤ lo' ∨ hi' ≤ lo) : OthAt w' lo hi v ps :=
  h.of ht.size (fun g h1 hg => ht.block g (Nat.lt_of_lt_of_le hg h.1) (by omega))
theorem OthAt.isIn {w : World} {lo hi : Nat} {v : Value} {ps : List Pt} (h : OthAt w lo hi v ps) : OthIn w v ps := by
  obtain ⟨h1, a1, c1, rfl, h2⟩ := h
  exact ⟨_, rfl, a1, c1, rfl, h2.wide (Nat.zero_le _) h1⟩
theorem OthAt.wide {w : World} {lo hi lo' hi' : Nat} {v : Value} {ps : List Pt} (h : OthAt w lo hi v ps) (h1 : lo' ≤ lo) (h2 : hi ≤ hi') (h3 : hi' ≤ w.heap.size) : OthAt w lo' hi' v ps := by
  obtain ⟨_, a1, c1, rfl, h4⟩ := h
  exact ⟨h3, a1, c1, rfl, h4.wide h1 h2⟩

/-- The caller's parts: wherever they lie. -/
def ArgP (w : World) (v : Value) (ps : List Pt) : Prop :=
  ∃ a cap, v = .slice a ps.length cap ∧ ps.length ≤ maxLen ∧ ∀ j, j < ps.length → ∃ b off, a = some ⟨b, off, none⟩ ∧ b < w.heap.size ∧ PtCell w b (off + j * 3) (ps.getD j pt0)
theorem ArgP.kept {w w' : World} {v : Value} {ps : List Pt} {n : Nat} (h : ArgP w v ps) (hb : Below n w w') (hn : w.heap.size ≤ n) : ArgP w' v ps := by
  obtain ⟨a, cap, rfl, hl, hx⟩ := h
  refine ⟨a, cap, rfl, hl, fun j hj => ?_⟩
  obtain ⟨b, off, rfl, hlt, hc⟩ := hx j hj
  exact ⟨b, off, rfl, Nat.lt_of_lt_of_le hlt hb.size, hc.of (hb.block b (Nat.lt_of_lt_of_le hlt hn))⟩
def ArgO (w : World) (v : Value) (ps : List Pt) : Prop := ∃ u, v = .agg #[u] ∧ ArgP w u ps
theorem ArgO.kept {w w' : World} {v : Value} {ps : List Pt} (h : ArgO w v ps) (hb : Below w.heap.size w w') : ArgO w' v ps := by
  obtain ⟨u, rfl, h1⟩ := h
  exact ⟨u, rfl, h1.kept hb (Nat.le_refl _)⟩

/-- A box that holds an other map. -/
def Bo (w : World) (b : Nat) (x : Value) : Prop := w.cell? ⟨b, 0, none⟩ = some x ∧ b < w.heap.size
theorem Bo.of {w w' : World} {b : Nat} {x : Value} (h : Bo w b x) (hs : w.heap.size ≤ w'.heap.size) (he : w'.heap[b]? = w.heap[b]?) : Bo w' b x :=
  ⟨(World.cell?_of_block (a := ⟨b, 0, none⟩) he).trans h.1, Nat.lt_of_lt_of_le h.2 hs⟩
theorem Bo.kept {w w' : World} {b : Nat} {x : Value} (h : Bo w b x) (hb : Below w.heap.size w w') : Bo w' b x := h.of hb.size (hb.block b h.2)
theorem Bo.touch {w w' : World} {lo hi b : Nat} {x : Value} (h : Bo w b x) (ht : Touch lo hi w w') (hd : b < lo ∨ hi ≤ b) : Bo w' b x := h.of ht.size (ht.block b h.2 hd)
theorem Bo.new (w : World) (x : Value) (T : TypeId) : Bo (w.alloc (.cells #[x] T)) w.heap.size x := ⟨by go_simp, by simp⟩
theorem below_new (w : World) (X : Obj) : Below w.heap.size w (w.alloc X) := (Below.refl w.heap.size w).alloc (Nat.le_refl _) X
theorem Bo.grow {w : World} {b : Nat} {x : Value} (h : Bo w b x) (X : Obj) : Bo (w.alloc X) b x := h.kept (below_new w X)

/-- What the size leaves. -/
def szO (n : Nat) : Int := if 1048576 < n then -1 else 1048576 - (n : Int)
theorem szO_neg {n : Nat} (h : 1048576 < n) : szO n < 0 := by rw [szO, if_pos h]; omega
theorem szO_pos {n : Nat} (h : ¬ 1048576 < n) : ¬ szO n < 0 := by rw [szO, if_neg h]; omega
theorem infoPt : (Tryd.prog.info? 118).map (fun i => (i.zero, i.size, i.bytes)) = some (some (.agg #[.int .i64 0, .int .i64 0, .int .i64 0]), 3, 24) := by kernel_rfl

/-- A part stored. -/
theorem PtCell.set {w : World} {g o : Nat} {q : Pt} (h : PtCell w g o q) (t p z : Int) : PtCell (((w.setCell ⟨g, o, none⟩ (.int .i64 t)).setCell ⟨g, o + 1, none⟩ (.int .i64 p)).setCell ⟨g, o + 2, none⟩ (.int .i64 z)) g o (t, p, z) := by
  obtain ⟨h0, h1, h2⟩ := h
  refine ⟨?_, ?_, ?_⟩
  · exact (World.cell?_setCell_other _ _ _ _ (by simp)).trans ((World.cell?_setCell_other _ _ _ _ (by simp)).trans (World.cell?_setCell_same' _ _ _ (by rw [h0]; rfl)))
  · refine (World.cell?_setCell_other _ _ _ _ (by simp)).trans (World.cell?_setCell_same' _ _ _ ?_)
    rw [World.cell?_setCell_other _ _ _ _ (by simp), h1]; rfl
  · refine World.cell?_setCell_same' _ _ _ ?_
    rw [World.cell?_setCell_other _ _ _ _ (by simp), World.cell?_setCell_other _ _ _ _ (by simp), h2]; rfl
theorem PtCell.set_other {w : World} {g o o' : Nat} {q : Pt} (h : PtCell w g o q) (hd : o + 3 ≤ o' ∨ o' + 3 ≤ o) (t p z : Value) : PtCell (((w.setCell ⟨g, o', none⟩ t).setCell ⟨g, o' + 1, none⟩ p).setCell ⟨g, o' + 2, none⟩ z) g o q := by
  obtain ⟨h0, h1, h2⟩ := h
  refine ⟨?_, ?_, ?_⟩
  all_goals rw [World.cell?_setCell_other _ _ _ _ (by simp <;> omega), World.cell?_setCell_other _ _ _ _ (by simp <;> omega), World.cell?_setCell_other _ _ _ _ (by simp <;> omega)]; assumption
theorem PtFree.set {w : World} {g o : Nat} (h : PtFree w g o) (a b c : Addr) (t p z : Value) : PtFree (((w.setCell a t).setCell b p).setCell c z) g o := by
  obtain ⟨h0, h1, h2⟩ := h
  refine ⟨?_, ?_, ?_⟩
  all_goals rw [World.frozen?_setCell, World.frozen?_setCell, World.frozen?_setCell]; assumption
theorem below_set3 {n : Nat} {w w' : World} {g o : Nat} (h : Below n w w') (hg : n ≤ g) (t p z : Value) : Below n w (((w'.setCell ⟨g, o, none⟩ t).setCell ⟨g, o + 1, none⟩ p).setCell ⟨g, o + 2, none⟩ z) :=
  ((h.setCell (p := ⟨g, o, none⟩) hg _).setCell (p := ⟨g, o + 1, none⟩) hg _).setCell (p := ⟨g, o + 2, none⟩) hg _
theorem touch_set3 {lo hi : Nat} {w w' : World} {g o : Nat} (h : Touch lo hi w w') (h1 : lo ≤ g) (h2 : g < hi) (t p z : Value) : Touch lo hi w (((w'.setCell ⟨g, o, none⟩ t).setCell ⟨g, o + 1, none⟩ p).setCell ⟨g, o + 2, none⟩ z) :=
  ((h.setCell (p := ⟨g, o, none⟩) h1 h2 _).setCell (p := ⟨g, o + 1, none⟩) h1 h2 _).setCell (p := ⟨g, o + 2, none⟩) h1 h2 _
/-- The first j parts of a row are turned. -/
theorem rowStep {w : World} {g j K : Nat} {ps : List Pt} {t p z : Int} (hj : j < K) (hq : ps.getD j pt0 = (t, p, z)) (h1 : ∀ i, i < j → PtCell w g (i * 3) (ps.getD i pt0)) (h2 : ∀ i, i < K → (∃ q, PtCell w g (i * 3) q) ∧ PtFree w g (i * 3)) :
    (∀ i, i < j + 1 → PtCell (((w.setCell ⟨g, j * 3, none⟩ (.int .i64 t)).setCell ⟨g, j * 3 + 1, none⟩ (.int .i64 p)).setCell ⟨g, j * 3 + 2, none⟩ (.int .i64 z)) g (i * 3) (ps.getD i pt0)) ∧
    (∀ i, i < K → (∃ q, PtCell (((w.setCell ⟨g, j * 3, none⟩ (.int .i64 t)).setCell ⟨g, j * 3 + 1, none⟩ (.int .i64 p)).setCell ⟨g, j * 3 + 2, none⟩ (.int .i64 z)) g (i * 3) q) ∧ PtFree (((w.setCell ⟨g, j * 3, none⟩ (.int .i64 t)).setCell ⟨g, j * 3 + 1, none⟩ (.int .i64 p)).setCell ⟨g, j * 3 + 2, none⟩ (.int .i64 z)) g (i * 3)) := by
  obtain ⟨⟨q0, hq0⟩, hf0⟩ := h2 j hj
  have hnew := hq0.set t p z
  refine ⟨fun i hi => ?_, fun i hi => ?_⟩
  · by_cases e : i = j
    · subst e; rw [hq]; exact hnew
    · exact (h1 i (by omega)).set_other (by omega) _ _ _
  · obtain ⟨⟨q, hq1⟩, hf⟩ := h2 i hi
    refine ⟨?_, hf.set _ _ _ _ _ _⟩
    by_cases e : i = j
    · subst e; exact ⟨_, hnew⟩
    · exact ⟨q, hq1.set_other (by omega) _ _ _⟩

theorem eqPart_any (t p o : Int) (w : World) :
    Calls Tryd.prog 92 #[.agg #[.int .i64 t, .int .i64 p, .int .i64 o], .agg #[.int .i64 t, .int .i64 p, .int .i64 o]] w fun e w' => e = .returned (.bool true) ∧ Below w.heap.size w w' := by
  go_enter Tryd.func92, Tryd.ntmps92
  go_wp2
  go_ret
  exact ⟨rfl, ((Below.refl _ _).alloc (Nat.le_refl _) _).alloc (by simp) _⟩

set_option maxRecDepth 100000 in
set_option maxHeartbeats 4000000 in
theorem eqPartS_any (ps : List Pt) (v v' : Value) (w : World) (hl : ps.length ≤ 1048576) (h : PartsIn w v ps) (h' : PartsIn w v' ps) :
    Calls Tryd.prog 53 #[v, v'] w fun e w' => e = .returned (.bool true) ∧ Below w.heap.size w w' := by
  obtain ⟨a, c, rfl, hx⟩ := h.rd
  obtain ⟨a', c', rfl, hx'⟩ := h'.rd
  obtain ⟨L, hL⟩ : ∃ L, L = ps.length := ⟨_, rfl⟩
  rw [← hL] at hl hx hx' ⊢
  have hl2 : (L : Int) ≤ 1048576 := by omega
  have H := Lib.hid hx
  have H' := Lib.hid hx'
  clear hL hl h h' hx hx'
  go_enter Tryd.func53, Tryd.ntmps53
  go_wp2_with fail
  go_loopw [5] (fun i wr => ∃ k : Nat, k ≤ L ∧ i = .int .i64 k ∧ Below w.heap.size w wr) (fun i _ => L - (RowKit.intOf i).toNat)
  case atStart => exact ⟨0, Nat.zero_le _, rfl, Below.refl _ _⟩
  case round =>
    obtain ⟨k, hk, rfl, hb⟩ := hrel
    by_cases hlt : k < L
    · obtain ⟨g, rfl, hg, q⟩ := H.out k hlt
      obtain ⟨g', rfl, hg', q'⟩ := H'.out k hlt
      have q2 := q.of (hb.block g hg)
      have q2' := q'.of (hb.block g' hg')
      clear q q'
      obtain ⟨pt, hpt⟩ : ∃ pt, ps.getD k pt0 = pt := ⟨_, rfl⟩
      rw [hpt] at q2 q2'
      obtain ⟨t, p, o⟩ := pt
      obtain ⟨k0, k1, k2⟩ := q2
      obtain ⟨k0', k1', k2'⟩ := q2'
      dsimp only at k0 k1 k2 k0' k1' k2'
      have hk0 : (0 : Int) ≤ (k : Int) := by omega
      have hk1 : (k : Int) < (L : Int) := by omega
      have HB := Lib.hid hb
      have HE := Lib.hid (fun w => eqPart_any t p o w)
      clear hpt hb
      go_wp2_with fail
      go_region_with (go_at_call 92; refine (HE.out _).mono ?_; rintro e w4 ⟨rfl, hb4⟩)
      all_goals go_wp2_with fail
      all_goals exact ⟨⟨k + 1, hlt, by go_num, (by first | exact HB.out.trans (hb4.mono HB.out.size) | exact HB.out.drew.trans (hb4.mono HB.out.drew.size) | exact (below_drewN HB.out _).trans (hb4.mono (below_drewN HB.out _).size))⟩, by simp [RowKit.intOf]; omega⟩
    · obtain rfl : k = L := by omega
      have hkk : ¬ ((k : Int) < (k : Int)) := by omega
      have HB := Lib.hid hb
      clear hb
      go_wp2_with fail
      go_ret
      exact ⟨rfl, HB.out⟩

/-- The numbers k, k + 1, .. in a row of parts. -/
def markPt (k : Int) (L : Nat) : List Pt := (List.range L).map fun (i : Nat) => (k + 3 * (i : Int), k + 3 * (i : Int) + 1, k + 3 * (i : Int) + 1 + 1)
theorem markPt_length (k : Int) (L : Nat) : (markPt k L).length = L := by simp [markPt]
theorem markPt_at {k : Int} {L j : Nat} (h : j < L) : (markPt k L).getD j pt0 = (k + 3 * (j : Int), k + 3 * (j : Int) + 1, k + 3 * (j : Int) + 1 + 1) := by
  simp [markPt, List.getD_eq_getElem?_getD, h]

set_option maxRecDepth 100000 in
set_option maxHeartbeats 4000000 in
theorem markPartS_any (ps : List Pt) (lo hi : Nat) (a : Option Addr) (cap : Nat) (w : World) (hh : hi ≤ w.heap.size) (hl : ps.length ≤ 1048576) (hx : PRow w lo hi a ps) :
    Calls Tryd.prog 54 #[.slice a ps.length cap, .int .i64 1] w fun e w' => e = .returned (.int .i64 (1 + 3 * (ps.length : Int))) ∧ Touch lo hi w w' ∧ PRow w' lo hi a (markPt 1 ps.length) := by
  obtain ⟨L, hL⟩ : ∃ L, L = ps.length := ⟨_, rfl⟩
  rw [← hL] at hl ⊢
  have hl2 : (L : Int) ≤ 1048576 := by omega
  have H : Hid (0 < L → ∃ g, a = some ⟨g, 0, none⟩ ∧ lo ≤ g ∧ g < hi ∧ ∀ j, j < L → (∃ q, PtCell w g (j * 3) q) ∧ PtFree w g (j * 3)) := Lib.hid (fun hp => by
    obtain ⟨g, e, a1, a2, a3⟩ := hx (by intro e; rw [e] at hL; simp at hL; omega)
    exact ⟨g, e, a1, a2, fun j hj => ⟨⟨_, (a3 j (by rw [← hL]; exact hj)).1⟩, (a3 j (by rw [← hL]; exact hj)).2⟩⟩)
  have HM := Lib.hid (fun j (hj : j < L) => markPt_at (k := 1) hj)
  clear hL hl hx
  go_enter Tryd.func54, Tryd.ntmps54
  go_wp2_with fail
  go_loopw [1, 5] (fun m i wr => ∃ k : Nat, k ≤ L ∧ i = .int .i64 k ∧ m = .int .i64 (1 + 3 * (k : Int)) ∧ Touch lo hi w wr ∧ (0 < L → ∃ g, a = some ⟨g, 0, none⟩ ∧ lo ≤ g ∧ g < hi ∧ (∀ j, j < k → PtCell wr g (j * 3) ((markPt 1 L).getD j pt0)) ∧ (∀ j, j < L → (∃ q, PtCell wr g (j * 3) q) ∧ PtFree wr g (j * 3)))) (fun _ i _ => L - (intOf i).toNat)
  case atStart =>
    refine ⟨0, Nat.zero_le _, rfl, by simp, Touch.refl _ _ _, fun hp => ?_⟩
    obtain ⟨g, e, a1, a2, a3⟩ := H.out hp
    exact ⟨g, e, a1, a2, by simp, a3⟩
  case round =>
    obtain ⟨k, hk, rfl, rfl, hb, hh3⟩ := hrel
    by_cases hlt : k < L
    · obtain ⟨g, rfl, g1, g2, h1', h2⟩ := hh3 (by omega)
      obtain ⟨⟨⟨x, y, z⟩, q0, q1, q2⟩, f0, f1, f2⟩ := h2 k hlt
      dsimp only at q0 q1 q2
      have HMK := Lib.hid (HM.out k hlt)
      obtain ⟨mm, hmm⟩ : ∃ mm : Int, 1 + 3 * (k : Int) = mm := ⟨_, rfl⟩
      rw [hmm] at HMK
      rw [hmm]
      have HST := Lib.hid (rowStep hlt HMK.out h1' h2)
      have HG := Lib.hid (And.intro g1 g2)
      have hlt2 : (k : Int) < (L : Int) := by omega
      have hm1 : 0 ≤ mm := by omega
      have hm2 : mm ≤ 4000000 := by omega
      have HMM : Hid (1 + 3 * ((k + 1 : Nat) : Int) = mm + 1 + 1 + 1) := Lib.hid (by omega)
      clear h1' h2 hh3 hmm
      go_wp2
      refine ⟨⟨k + 1, hlt, by go_num, by rw [HMM.out], touch_set3 hb HG.out.1 HG.out.2 _ _ _, fun _ => ⟨g, rfl, HG.out.1, HG.out.2, HST.out.1, HST.out.2⟩⟩, by simp [intOf]; omega⟩
    · obtain rfl : k = L := by omega
      have hrow : PRow wr lo hi a (markPt 1 k) := by
        intro hn
        have hk0 : 0 < k := by
          rcases Nat.eq_zero_or_pos k with e | e
          · subst e; exact (hn rfl).elim
          · exact e
        obtain ⟨g, e, g1, g2, a1, a2⟩ := hh3 hk0
        refine ⟨g, e, g1, g2, fun j hj => ?_⟩
        rw [markPt_length] at hj
        exact ⟨a1 j hj, (a2 j hj).2⟩
      have HROW := Lib.hid hrow
      have hlt2 : ¬ ((k : Int) < (k : Int)) := by omega
      clear hh3 hrow
      go_wp2
      go_ret
      exact ⟨rfl, hb, HROW.out⟩

set_option maxRecDepth 100000 in
set_option maxHeartbeats 4000000 in
theorem heldPartS_any (L : Nat) (lo hi : Nat) (a : Option Addr) (cap : Nat) (w : World) (hl : L ≤ 1048576) (hx : PRow w lo hi a (markPt 1 L)) :
    Calls Tryd.prog 55 #[.slice a L cap, .int .i64 1] w fun e w' => e = .returned (.int .i64 (1 + 3 * (L : Int))) ∧ w = w' := by
  have hl2 : (L : Int) ≤ 1048576 := by omega
  have H : Hid (∀ j, j < L → ∃ g, a = some ⟨g, 0, none⟩ ∧ PtCell w g (j * 3) (1 + 3 * (j : Int), 1 + 3 * (j : Int) + 1, 1 + 3 * (j : Int) + 1 + 1)) := Lib.hid (fun j hj => by
    obtain ⟨g, e, a1, a2, a3⟩ := hx (by intro e; have := markPt_length 1 L; rw [e] at this; simp at this; omega)
    exact ⟨g, e, by rw [← markPt_at (k := 1) hj]; exact (a3 j (by rw [markPt_length]; exact hj)).1⟩)
  clear hl hx
  go_enter Tryd.func55, Tryd.ntmps55
  go_wp2_with fail
  go_loop [1, 5] (fun m i => ∃ k : Nat, k ≤ L ∧ i = .int .i64 k ∧ m = .int .i64 (1 + 3 * (k : Int))) (fun _ i => L - (intOf i).toNat)
  case atStart => exact ⟨0, Nat.zero_le _, rfl, by simp⟩
  case round =>
    obtain ⟨k, hk, rfl, rfl⟩ := hrel
    by_cases hlt : k < L
    · obtain ⟨g, rfl, q0, q1, q2⟩ := H.out k hlt
      dsimp only at q0 q1 q2
      have hlt2 : (k : Int) < (L : Int) := by omega
      obtain ⟨mm, hmm⟩ : ∃ mm : Int, 1 + 3 * (k : Int) = mm := ⟨_, rfl⟩
      rw [hmm] at q0 q1 q2
      rw [hmm]
      have hm1 : 0 ≤ mm := by omega
      have hm2 : mm ≤ 4000000 := by omega
      have HMM : Hid (1 + 3 * ((k + 1 : Nat) : Int) = mm + 1 + 1 + 1) := Lib.hid (by omega)
      clear hmm
      go_wp2
      exact ⟨⟨k + 1, hlt, by go_num, by rw [HMM.out]⟩, by simp [intOf]; omega⟩
    · obtain rfl : k = L := by omega
      have hlt2 : ¬ ((k : Int) < (k : Int)) := by omega
      go_wp2
      go_ret
      exact ⟨rfl, rfl⟩

theorem eqOther_any (ps : List Pt) (v v' : Value) (w : World) (hl : ps.length ≤ 1048576) (h : OthIn w v ps) (h' : OthIn w v' ps) :
    Calls Tryd.prog 21 #[v, v'] w fun e w' => e = .returned (.bool true) ∧ Below w.heap.size w w' := by
  obtain ⟨v1, rfl, i1⟩ := h
  obtain ⟨v1', rfl, i1'⟩ := h'
  have HC := Lib.hid (fun W (hb : Below w.heap.size w W) => eqPartS_any ps v1 v1' W hl (i1.kept hb) (i1'.kept hb))
  clear i1 i1' hl
  have HB := Lib.hid (fun X Y => (((Below.refl w.heap.size w).alloc (Nat.le_refl _) X).alloc (by simp) Y))
  go_enter Tryd.func21, Tryd.ntmps21
  go_wp2_with fail
  refine (HC.out _ (HB.out _ _)).mono ?_
  rintro e w1 ⟨rfl, hb1⟩
  have HB1 := Lib.hid ((HB.out _ _).trans (hb1.mono (HB.out _ _).size))
  clear hb1
  go_wp2_with fail
  go_ret
  exact ⟨rfl, HB1.out⟩

theorem markOther_any (ps : List Pt) (v : Value) (lo hi : Nat) (w : World) (hl : ps.length ≤ 1048576) (h : OthAt w lo hi v ps) :
    Calls Tryd.prog 22 #[v, .int .i64 1] w fun e w' => e = .returned (.int .i64 (1 + 3 * (ps.length : Int))) ∧ Touch lo hi w w' ∧ OthAt w' lo hi v (markPt 1 ps.length) := by
  obtain ⟨hh, a, c, rfl, q⟩ := h
  have HC := Lib.hid (fun W (hs : hi ≤ W.heap.size) (hq : PRow W lo hi a ps) => markPartS_any ps lo hi a c W hs hl hq)
  have HH := Lib.hid hh
  have Q := Lib.hid (q.of (w' := w.alloc (.cells #[.slice a ps.length c] 42)) (fun g _ hg => ((Below.refl w.heap.size w).alloc (Nat.le_refl _) _).block g (by omega)))
  have HML : Hid ((markPt 1 ps.length).length = ps.length) := Lib.hid (markPt_length _ _)
  clear q hl hh
  go_enter Tryd.func22, Tryd.ntmps22
  go_wp2_with fail
  refine (HC.out _ (by have := HH.out; simp; omega) Q.out).mono ?_
  rintro e w1 ⟨rfl, t1, r1⟩
  have T1 := Lib.hid ((Touch.of_below ((Below.refl w.heap.size w).alloc (Nat.le_refl _) (.cells #[.slice a ps.length c] 42))).trans t1)
  have R1 := Lib.hid r1
  clear t1 r1
  go_wp2_with fail
  go_ret
  refine ⟨rfl, T1.out, ⟨by have := T1.out.size; have := HH.out; omega, a, c, by rw [HML.out], R1.out⟩⟩

theorem heldOther_any (n : Nat) (v : Value) (lo hi : Nat) (w : World) (hl : n ≤ 1048576) (h : OthAt w lo hi v (markPt 1 n)) :
    Calls Tryd.prog 23 #[v, .int .i64 1] w fun e w' => e = .returned (.int .i64 (1 + 3 * (n : Int))) ∧ Below w.heap.size w w' := by
  obtain ⟨hh, a, c, rfl, q⟩ := h
  rw [markPt_length]
  have HC := Lib.hid (fun W (hq : PRow W lo hi a (markPt 1 n)) => heldPartS_any n lo hi a c W hl hq)
  have Q := Lib.hid (q.of (w' := w.alloc (.cells #[.slice a n c] 42)) (fun g _ hg => ((Below.refl w.heap.size w).alloc (Nat.le_refl _) _).block g (by omega)))
  have hd : ¬ (1 + 3 * (n : Int) < 0) := by omega
  clear q hl hh
  go_enter Tryd.func23, Tryd.ntmps23
  go_wp2_with fail
  refine (HC.out _ Q.out).mono ?_
  rintro e w1 ⟨rfl, rfl⟩
  go_wp2_with fail
  go_ret
  exact ⟨rfl, (Below.refl w.heap.size w).alloc (Nat.le_refl _) _⟩
end Go.Proofs.YtgobjobppajkbaaDoor
