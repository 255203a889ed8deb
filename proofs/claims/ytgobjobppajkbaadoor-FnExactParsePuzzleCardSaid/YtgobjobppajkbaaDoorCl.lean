/-
  ROWS OF CLUES: three cells each; what the laws do to a puzzle: its size, a copy, comparing, marking, holding.
-/
import Derived.Test.YtgobjobppajkbaaDoorLists
import Derived.Test.YtgobjobppajkbaaDoorPzM
import Derived.OwnWalk
import Derived.WalkLawsBesides
import Derived.BigQuiet
import Derived.Deep.QuietTactic
import Derived.Deep.RegionWith
namespace Go.Proofs.YtgobjobppajkbaaDoor
open Go.RowKit
set_option linter.unusedVariables false

/-- A part's cells, from the offset o on. -/
def PtCell (w : World) (g o : Nat) (q : Pt) : Prop :=
  w.cell? ⟨g, o, none⟩ = some (.int .i64 q.1) ∧ w.cell? ⟨g, o + 1, none⟩ = some (.int .i64 q.2.1) ∧ w.cell? ⟨g, o + 2, none⟩ = some (.int .i64 q.2.2)
def PtFree (w : World) (g o : Nat) : Prop :=
  w.frozen? ⟨g, o, none⟩ = false ∧ w.frozen? ⟨g, o + 1, none⟩ = false ∧ w.frozen? ⟨g, o + 2, none⟩ = false
theorem PtCell.of {w w' : World} {g o : Nat} {q : Pt} (h : PtCell w g o q) (he : w'.heap[g]? = w.heap[g]?) : PtCell w' g o q :=
  ⟨(World.cell?_of_block (a := ⟨g, _, none⟩) he).trans h.1, (World.cell?_of_block (a := ⟨g, _, none⟩) he).trans h.2.1, (World.cell?_of_block (a := ⟨g, _, none⟩) he).trans h.2.2⟩
theorem PtFree.of {w w' : World} {g o : Nat} (h : PtFree w g o) (he : w'.heap[g]? = w.heap[g]?) : PtFree w' g o :=
  ⟨(World.frozen?_of_block (a := ⟨g, _, none⟩) he).trans h.1, (World.frozen?_of_block (a := ⟨g, _, none⟩) he).trans h.2.1, (World.frozen?_of_block (a := ⟨g, _, none⟩) he).trans h.2.2⟩
/-- A row of parts that begins a block. -/
def PtRow (w : World) (g : Nat) (ps : List Pt) : Prop := ∀ j, j < ps.length → PtCell w g (j * 3) (ps.getD j pt0) ∧ PtFree w g (j * 3)
theorem PtRow.of {w w' : World} {g : Nat} {ps : List Pt} (h : PtRow w g ps) (he : w'.heap[g]? = w.heap[g]?) : PtRow w' g ps :=
  fun j hj => ⟨(h j hj).1.of he, (h j hj).2.of he⟩
/-- A slice of parts that lies in a block from lo on, below hi, if it is not empty. -/
def PRow (w : World) (lo hi : Nat) (a : Option Addr) (ps : List Pt) : Prop := ps ≠ [] → ∃ g, a = some ⟨g, 0, none⟩ ∧ lo ≤ g ∧ g < hi ∧ PtRow w g ps
theorem PRow.of {w w' : World} {lo hi : Nat} {a : Option Addr} {ps : List Pt} (h : PRow w lo hi a ps) (he : ∀ g, lo ≤ g → g < hi → w'.heap[g]? = w.heap[g]?) : PRow w' lo hi a ps := by
  intro hn
  obtain ⟨g, rfl, h1, h2, h3⟩ := h hn
  exact ⟨g, rfl, h1, h2, h3.of (he g h1 h2)⟩
theorem PRow.wide {w : World} {lo hi lo' hi' : Nat} {a : Option Addr} {ps : List Pt} (h : PRow w lo hi a ps) (h1 : lo' ≤ lo) (h2 : hi ≤ hi') : PRow w lo' hi' a ps := by
  intro hn
  obtain ⟨g, rfl, a1, a2, a3⟩ := h hn
  exact ⟨g, rfl, by omega, by omega, a3⟩
/-- A slice that reads as ps. -/
def PartsIn (w : World) (v : Value) (ps : List Pt) : Prop := ∃ a cap, v = .slice a ps.length cap ∧ PRow w 0 w.heap.size a ps
theorem PartsIn.kept {w w' : World} {v : Value} {ps : List Pt} (h : PartsIn w v ps) (hb : Below w.heap.size w w') : PartsIn w' v ps := by
  obtain ⟨a, cap, rfl, hx⟩ := h
  exact ⟨a, cap, rfl, (hx.of (fun g _ hg => hb.block g hg)).wide (Nat.le_refl _) hb.size⟩
theorem PartsIn.rd {w : World} {v : Value} {ps : List Pt} (h : PartsIn w v ps) : ∃ a cap, v = .slice a ps.length cap ∧ ∀ j, j < ps.length → ∃ g, a = some ⟨g, 0, none⟩ ∧ g < w.heap.size ∧ PtCell w g (j * 3) (ps.getD j pt0) := by
  obtain ⟨a, cap, rfl, hx⟩ := h
  refine ⟨a, cap, rfl, fun j hj => ?_⟩
  obtain ⟨g, rfl, _, h1, h2⟩ := hx (by rintro rfl; simp at hj)
  exact ⟨g, rfl, h1, (h2 j hj).1⟩
/-- A puzzle that can be read. -/
def PuzIn (w : World) (v : Value) (t p : Int) (ps : List Pt) : Prop := ∃ a cap, v = .agg #[.int .i64 t, .int .i64 p, .slice a ps.length cap] ∧ (ps.length ≤ cap ∧ cap ≤ maxLen) ∧ PRow w 0 w.heap.size a ps
theorem PuzIn.kept {w w' : World} {v : Value} {t p : Int} {ps : List Pt} (h : PuzIn w v t p ps) (hb : Below w.heap.size w w') : PuzIn w' v t p ps := by
  obtain ⟨a, cap, rfl, h1, hx⟩ := h
  exact ⟨a, cap, rfl, h1, (hx.of (fun g _ hg => hb.block g hg)).wide (Nat.le_refl _) hb.size⟩
theorem PuzIn.parts {w : World} {v : Value} {t p : Int} {ps : List Pt} (h : PuzIn w v t p ps) : ∃ u, v = .agg #[.int .i64 t, .int .i64 p, u] ∧ PartsIn w u ps := by
  obtain ⟨a, cap, rfl, h1, hx⟩ := h
  exact ⟨_, rfl, a, cap, rfl, hx⟩
/-- A puzzle of the call's own, its clues in a block from lo on, below hi. -/
def PuzAt (w : World) (lo hi : Nat) (v : Value) (t p : Int) (ps : List Pt) : Prop := hi ≤ w.heap.size ∧ ∃ a c, v = .agg #[.int .i64 t, .int .i64 p, .slice a ps.length c] ∧ (ps.length ≤ c ∧ c ≤ maxLen) ∧ PRow w lo hi a ps
theorem PuzAt.of {w w' : World} {lo hi : Nat} {v : Value} {t p : Int} {ps : List Pt} (h : PuzAt w lo hi v t p ps) (hs : w.heap.size ≤ w'.heap.size) (he : ∀ g, lo ≤ g → g < hi → w'.heap[g]? = w.heap[g]?) : PuzAt w' lo hi v t p ps := by
  obtain ⟨h1, a1, c1, rfl, h0, h2⟩ := h
  exact ⟨Nat.le_trans h1 hs, a1, c1, rfl, h0, h2.of he⟩
theorem PuzAt.kept {w w' : World} {lo hi : Nat} {v : Value} {t p : Int} {ps : List Pt} (h : PuzAt w lo hi v t p ps) (hb : Below w.heap.size w w') : PuzAt w' lo hi v t p ps :=
  h.of hb.size (fun g _ hg => hb.block g (Nat.lt_of_lt_of_le hg h.1))
theorem PuzAt.touch {w w' : World} {lo hi lo' hi' : Nat} {v : Value} {t p : Int} {ps : List Pt} (h : PuzAt w lo hi v t p ps) (ht : Touch lo' hi' w w') (hd : hi ≤ lo' ∨ hi' ≤ lo) : PuzAt w' lo hi v t p ps :=
  h.of ht.size (fun g h1 hg => ht.block g (Nat.lt_of_lt_of_le hg h.1) (by omega))
theorem PuzAt.isIn {w : World} {lo hi : Nat} {v : Value} {t p : Int} {ps : List Pt} (h : PuzAt w lo hi v t p ps) : PuzIn w v t p ps := by
  obtain ⟨h1, a1, c1, rfl, h0, h2⟩ := h
  exact ⟨a1, c1, rfl, h0, h2.wide (Nat.zero_le _) h1⟩
theorem PuzAt.wide {w : World} {lo hi lo' hi' : Nat} {v : Value} {t p : Int} {ps : List Pt} (h : PuzAt w lo hi v t p ps) (h1 : lo' ≤ lo) (h2 : hi ≤ hi') (h3 : hi' ≤ w.heap.size) : PuzAt w lo' hi' v t p ps := by
  obtain ⟨_, a1, c1, rfl, h0, h4⟩ := h
  exact ⟨h3, a1, c1, rfl, h0, h4.wide h1 h2⟩

/-- The caller's parts: wherever they lie. -/
def ArgP (w : World) (v : Value) (ps : List Pt) : Prop :=
  ∃ a cap, v = .slice a ps.length cap ∧ ps.length ≤ maxLen ∧ ∀ j, j < ps.length → ∃ b off, a = some ⟨b, off, none⟩ ∧ b < w.heap.size ∧ PtCell w b (off + j * 3) (ps.getD j pt0)
theorem ArgP.kept {w w' : World} {v : Value} {ps : List Pt} {n : Nat} (h : ArgP w v ps) (hb : Below n w w') (hn : w.heap.size ≤ n) : ArgP w' v ps := by
  obtain ⟨a, cap, rfl, hl, hx⟩ := h
  refine ⟨a, cap, rfl, hl, fun j hj => ?_⟩
  obtain ⟨b, off, rfl, hlt, hc⟩ := hx j hj
  exact ⟨b, off, rfl, Nat.lt_of_lt_of_le hlt hb.size, hc.of (hb.block b (Nat.lt_of_lt_of_le hlt hn))⟩
def ArgZ (w : World) (v : Value) (t p : Int) (ps : List Pt) : Prop := ∃ u, v = .agg #[.int .i64 t, .int .i64 p, u] ∧ ArgP w u ps
theorem ArgZ.kept {w w' : World} {v : Value} {t p : Int} {ps : List Pt} (h : ArgZ w v t p ps) (hb : Below w.heap.size w w') : ArgZ w' v t p ps := by
  obtain ⟨u, rfl, h1⟩ := h
  exact ⟨u, rfl, h1.kept hb (Nat.le_refl _)⟩

/-- A box that holds a puzzle. -/
def Bz (w : World) (b : Nat) (t p : Int) (x : Value) : Prop := (w.cell? ⟨b, 0, none⟩ = some (.int .i64 t) ∧ w.cell? ⟨b, 1, none⟩ = some (.int .i64 p) ∧ w.cell? ⟨b, 2, none⟩ = some x) ∧ b < w.heap.size
theorem Bz.of {w w' : World} {b : Nat} {t p : Int} {x : Value} (h : Bz w b t p x) (hs : w.heap.size ≤ w'.heap.size) (he : w'.heap[b]? = w.heap[b]?) : Bz w' b t p x :=
  ⟨⟨(World.cell?_of_block (a := ⟨b, _, none⟩) he).trans h.1.1, (World.cell?_of_block (a := ⟨b, _, none⟩) he).trans h.1.2.1, (World.cell?_of_block (a := ⟨b, _, none⟩) he).trans h.1.2.2⟩, Nat.lt_of_lt_of_le h.2 hs⟩
theorem Bz.kept {w w' : World} {b : Nat} {t p : Int} {x : Value} (h : Bz w b t p x) (hb : Below w.heap.size w w') : Bz w' b t p x := h.of hb.size (hb.block b h.2)
theorem Bz.touch {w w' : World} {lo hi b : Nat} {t p : Int} {x : Value} (h : Bz w b t p x) (ht : Touch lo hi w w') (hd : b < lo ∨ hi ≤ b) : Bz w' b t p x := h.of ht.size (ht.block b h.2 hd)
theorem Bz.new (w : World) (t p : Int) (x : Value) (T : TypeId) : Bz (w.alloc (.cells #[.int .i64 t, .int .i64 p, x] T)) w.heap.size t p x := ⟨⟨by go_simp, by go_simp, by go_simp⟩, by simp⟩
theorem below_new (w : World) (X : Obj) : Below w.heap.size w (w.alloc X) := (Below.refl w.heap.size w).alloc (Nat.le_refl _) X
theorem Bz.grow {w : World} {b : Nat} {t p : Int} {x : Value} (h : Bz w b t p x) (X : Obj) : Bz (w.alloc X) b t p x := h.kept (below_new w X)

/-- What the size leaves. -/
def szO (n : Nat) : Int := if 1048576 < n then -1 else 1048576 - (n : Int)
theorem szClueS_any (a : Option Addr) (n cap : Nat) (w : World) (hn : n ≤ maxLen) :
    Calls Tryd.prog 56 #[.slice a n cap, .int .i64 1048576] w fun e w' => e = .returned (.int .i64 (szO n)) ∧ w = w' := by
  have h3 : (n : Int) ≤ 9223372036854775807 := by unfold maxLen at hn; omega
  by_cases h : 1048576 < n
  · have HE : Hid (szO n = -1) := Lib.hid (by rw [szO, if_pos h])
    have h2 : (1048576 : Int) - (n : Int) < 0 := by omega
    clear h hn
    go_enter Tryd.func56, Tryd.ntmps56
    go_wp2_with fail
    go_ret
    exact ⟨ret_int HE.out.symm, rfl⟩
  · have HE : Hid (szO n = 1048576 - (n : Int)) := Lib.hid (by rw [szO, if_neg h])
    have h2 : ¬ ((1048576 : Int) - (n : Int) < 0) := by omega
    clear h hn
    go_enter Tryd.func56, Tryd.ntmps56
    go_wp2_with fail
    go_ret
    exact ⟨ret_int HE.out.symm, rfl⟩
theorem szO_neg {n : Nat} (h : 1048576 < n) : szO n < 0 := by rw [szO, if_pos h]; omega
theorem szO_pos {n : Nat} (h : ¬ 1048576 < n) : ¬ szO n < 0 := by rw [szO, if_neg h]; omega
theorem szPuzzle_any (t p : Int) (ps : List Pt) (v : Value) (w : World) (h : ArgZ w v t p ps) :
    Calls Tryd.prog 24 #[v, .int .i64 1048576] w fun e w' => e = .returned (.int .i64 (szO ps.length)) ∧ Below w.heap.size w w' := by
  obtain ⟨u, rfl, a, c, rfl, hl, _⟩ := h
  have HB := Lib.hid (fun X => (Below.refl w.heap.size w).alloc (Nat.le_refl _) X)
  generalize ps.length = n at *
  have HC := Lib.hid (fun w => szClueS_any a n c w hl)
  have HE : Hid (szO n < 0 → szO n = -1) := Lib.hid (fun e => by unfold szO at *; split at e <;> simp_all; omega)
  obtain ⟨s, hs⟩ : ∃ s, szO n = s := ⟨_, rfl⟩
  rw [hs] at HC HE ⊢
  clear hl hs
  by_cases hn : s < 0
  · obtain rfl := HE.out hn
    go_enter Tryd.func24, Tryd.ntmps24
    go_wp2_with fail
    refine (HC.out _).mono ?_
    rintro e w2 ⟨rfl, rfl⟩
    go_wp2_with fail
    go_ret
    exact ⟨rfl, HB.out _⟩
  · go_enter Tryd.func24, Tryd.ntmps24
    go_wp2_with fail
    refine (HC.out _).mono ?_
    rintro e w2 ⟨rfl, rfl⟩
    go_wp2_with fail
    go_ret
    exact ⟨rfl, HB.out _⟩

theorem toClue_any (t p o : Int) (w : World) :
    Calls Tryd.prog 97 #[.agg #[.int .i64 t, .int .i64 p, .int .i64 o]] w fun e w' => e = .returned (.agg #[.int .i64 t, .int .i64 p, .int .i64 o]) ∧ Below w.heap.size w w' := by
  go_enter Tryd.func97, Tryd.ntmps97
  go_wp2
  exact bodyPost_ret (v := .agg #[.int .i64 t, .int .i64 p, .int .i64 o]) (by simp [results, Tryd.results97, go_sem]) rfl ⟨rfl, (((Below.refl _ _).alloc (Nat.le_refl _) _).alloc (by simp) _).alloc (by simp; omega) _⟩

theorem infoPt : (Tryd.prog.info? 93).map (fun i => (i.zero, i.size, i.bytes)) = some (some (.agg #[.int .i64 0, .int .i64 0, .int .i64 0]), 3, 24) := by kernel_rfl

/-- A part stored. -/
theorem PtCell.set {w : World} {g o : Nat} {q : Pt} (h : PtCell w g o q) (t p z : Int) : PtCell (((w.setCell ⟨g, o, none⟩ (.int .i64 t)).setCell ⟨g, o + 1, none⟩ (.int .i64 p)).setCell ⟨g, o + 2, none⟩ (.int .i64 z)) g o (t, p, z) := by
  obtain ⟨h0, h1, h2⟩ := h
  refine ⟨?_, ?_, ?_⟩
  · exact (World.cell?_setCell_other _ _ _ _ (by simp)).trans ((World.cell?_setCell_other _ _ _ _ (by simp)).trans (World.cell?_setCell_same' _ _ _ (by rw [h0]; rfl)))
  · refine (World.cell?_setCell_other _ _ _ _ (by simp)).trans (World.cell?_setCell_same' _ _ _ ?_)
    rw [World.cell?_setCell_other _ _ _ _ (by simp), h1]; rfl
  · refine World.cell?_setCell_same' _ _ _ ?_
    rw [World.cell?_setCell_other _ _ _ _ (by simp), World.cell?_setCell_other _ _ _ _ (by simp), h2]; rfl
theorem PtCell.set_other {w : World} {g o o' : Nat} {q : Pt} (h : PtCell w g o q) (hd : o + 3 ≤ o' ∨ o' + 3 ≤ o) (t p z : Value) : PtCell (((w.setCell ⟨g, o', none⟩ t).setCell ⟨g, o' + 1, none⟩ p).setCell ⟨g, o' + 2, none⟩ z) g o q := by
  obtain ⟨h0, h1, h2⟩ := h
  refine ⟨?_, ?_, ?_⟩
  all_goals rw [World.cell?_setCell_other _ _ _ _ (by simp <;> omega), World.cell?_setCell_other _ _ _ _ (by simp <;> omega), World.cell?_setCell_other _ _ _ _ (by simp <;> omega)]; assumption
theorem PtFree.set {w : World} {g o : Nat} (h : PtFree w g o) (a b c : Addr) (t p z : Value) : PtFree (((w.setCell a t).setCell b p).setCell c z) g o := by
  obtain ⟨h0, h1, h2⟩ := h
  refine ⟨?_, ?_, ?_⟩
  all_goals rw [World.frozen?_setCell, World.frozen?_setCell, World.frozen?_setCell]; assumption
theorem below_set3 {n : Nat} {w w' : World} {g o : Nat} (h : Below n w w') (hg : n ≤ g) (t p z : Value) : Below n w (((w'.setCell ⟨g, o, none⟩ t).setCell ⟨g, o + 1, none⟩ p).setCell ⟨g, o + 2, none⟩ z) :=
  ((h.setCell (p := ⟨g, o, none⟩) hg _).setCell (p := ⟨g, o + 1, none⟩) hg _).setCell (p := ⟨g, o + 2, none⟩) hg _
theorem touch_set3 {lo hi : Nat} {w w' : World} {g o : Nat} (h : Touch lo hi w w') (h1 : lo ≤ g) (h2 : g < hi) (t p z : Value) : Touch lo hi w (((w'.setCell ⟨g, o, none⟩ t).setCell ⟨g, o + 1, none⟩ p).setCell ⟨g, o + 2, none⟩ z) :=
  ((h.setCell (p := ⟨g, o, none⟩) h1 h2 _).setCell (p := ⟨g, o + 1, none⟩) h1 h2 _).setCell (p := ⟨g, o + 2, none⟩) h1 h2 _
/-- The first j parts of a row are turned. -/
theorem rowStep {w : World} {g j K : Nat} {ps : List Pt} {t p z : Int} (hj : j < K) (hq : ps.getD j pt0 = (t, p, z)) (h1 : ∀ i, i < j → PtCell w g (i * 3) (ps.getD i pt0)) (h2 : ∀ i, i < K → (∃ q, PtCell w g (i * 3) q) ∧ PtFree w g (i * 3)) :
    (∀ i, i < j + 1 → PtCell (((w.setCell ⟨g, j * 3, none⟩ (.int .i64 t)).setCell ⟨g, j * 3 + 1, none⟩ (.int .i64 p)).setCell ⟨g, j * 3 + 2, none⟩ (.int .i64 z)) g (i * 3) (ps.getD i pt0)) ∧
    (∀ i, i < K → (∃ q, PtCell (((w.setCell ⟨g, j * 3, none⟩ (.int .i64 t)).setCell ⟨g, j * 3 + 1, none⟩ (.int .i64 p)).setCell ⟨g, j * 3 + 2, none⟩ (.int .i64 z)) g (i * 3) q) ∧ PtFree (((w.setCell ⟨g, j * 3, none⟩ (.int .i64 t)).setCell ⟨g, j * 3 + 1, none⟩ (.int .i64 p)).setCell ⟨g, j * 3 + 2, none⟩ (.int .i64 z)) g (i * 3)) := by
  obtain ⟨⟨q0, hq0⟩, hf0⟩ := h2 j hj
  have hnew := hq0.set t p z
  refine ⟨fun i hi => ?_, fun i hi => ?_⟩
  · by_cases e : i = j
    · subst e; rw [hq]; exact hnew
    · exact (h1 i (by omega)).set_other (by omega) _ _ _
  · obtain ⟨⟨q, hq1⟩, hf⟩ := h2 i hi
    refine ⟨?_, hf.set _ _ _ _ _ _⟩
    by_cases e : i = j
    · subst e; exact ⟨_, hnew⟩
    · exact ⟨q, hq1.set_other (by omega) _ _ _⟩

set_option maxRecDepth 100000 in
set_option maxHeartbeats 4000000 in
theorem toClueS_any (ps : List Pt) (v : Value) (w : World) (hl : ps.length ≤ 1048576) (h : ArgP w v ps) :
    Calls Tryd.prog 59 #[v] w fun e w' => ∃ a, e = .returned (.slice a ps.length ps.length) ∧ PRow w' w.heap.size w'.heap.size a ps ∧ Below w.heap.size w w' := by
  obtain ⟨a, cap, rfl, _, hx⟩ := h
  obtain ⟨K, hK⟩ : ∃ K, K = ps.length := ⟨_, rfl⟩
  rw [← hK] at hl hx ⊢
  have HK := Lib.hid hK
  have hK1 : (K : Int) ≤ 1048576 := by omega
  have HX := Lib.hid hx
  clear hx hK
  obtain ⟨i0, hi, hi0, hi1, hi2⟩ := info_parts infoPt
  go_enter Tryd.func59, Tryd.ntmps59
  go_wp2_with (at_make; refine wpList_make_full _ rfl _ _ 53 rfl w.heap.size 93 i0 (.agg #[.int .i64 0, .int .i64 0, .int .i64 0]) 3 Tryd.underlying53 hi hi0 hi1 .i64 .i64 K K K rfl rfl rfl rfl ?c1 ?c2 ?c3 ?_; rotate_right; intro w3 hown3 hgrow3)
  case c1 => rw [hi2]; omega
  case c2 => unfold maxLen; omega
  case c3 => simp
  have HW3 : Hid (Below w.heap.size w w3) := Lib.hid ((Below.refl _ w).grown hgrow3 (Nat.le_refl _) (fun k e => by simp at e))
  have HO3 : Hid (∀ j, j < K → (∃ q, PtCell w3 w.heap.size (j * 3) q) ∧ PtFree w3 w.heap.size (j * 3)) := Lib.hid (fun j hj => by
    have hc : ∀ i, i < K * 3 → w3.cell? ⟨w.heap.size, i, none⟩ = some (.int .i64 0) := by
      intro i hi
      rw [World.ownsRow.cellAt hown3 i hi]
      have hm : i % 3 = 0 ∨ i % 3 = 1 ∨ i % 3 = 2 := by omega
      rcases hm with hm | hm | hm <;> simp [madeCells, hi, Value.cells, hm]
    exact ⟨⟨(0, 0, 0), hc _ (by omega), hc _ (by omega), hc _ (by omega)⟩, World.ownsRow.frozenAt hown3 _, World.ownsRow.frozenAt hown3 _, World.ownsRow.frozenAt hown3 _⟩)
  have HZ3 : Hid (w.heap.size < w3.heap.size) := Lib.hid (World.ownsRow.lt hown3 _ rfl).2
  clear hown3 hgrow3
  go_loopw [4] (fun x wr => ∃ j : Nat, j ≤ K ∧ x = .int .i64 j ∧ (∀ i, i < j → PtCell wr w.heap.size (i * 3) (ps.getD i pt0)) ∧ (∀ i, i < K → (∃ q, PtCell wr w.heap.size (i * 3) q) ∧ PtFree wr w.heap.size (i * 3)) ∧ w.heap.size < wr.heap.size ∧ Below w.heap.size w wr) (fun x _ => K - (RowKit.intOf x).toNat)
  case atStart => exact ⟨0, by omega, rfl, by simp, HO3.out, HZ3.out, HW3.out⟩
  case round =>
    obtain ⟨j, hj, rfl, hdone, hopen, hsz, hbr⟩ := hrel
    have HD := Lib.hid hdone
    have HP := Lib.hid hopen
    have HBR := Lib.hid hbr
    by_cases hlt : j < K
    · obtain ⟨b, off, rfl, hbl, hc⟩ := HX.out j hlt
      have hc2 := hc.of (hbr.block b hbl)
      obtain ⟨q, hq⟩ : ∃ q, ps.getD j pt0 = q := ⟨_, rfl⟩
      rw [hq] at hc2
      have HQ := Lib.hid hq
      obtain ⟨t, p, o⟩ := q
      obtain ⟨k0, k1, k2⟩ := hc2
      dsimp only at k0 k1 k2
      have hjK : (j : Int) < (K : Int) := by omega
      have hj0 : (0 : Int) ≤ (j : Int) := by omega
      clear hdone hopen hc hq hbr
      go_wp2_with (go_at_call 97; refine (toClue_any t p o _).mono ?_; rintro e w4 ⟨rfl, hb4⟩; obtain ⟨⟨⟨u0, u1, u2⟩, m0, m1, m2⟩, ⟨f0, f1, f2⟩⟩ := (HP.out j hlt); dsimp only at m0 m1 m2; have n0 := kept_cell hb4 hsz m0; have n1 := kept_cell hb4 hsz m1; have n2 := kept_cell hb4 hsz m2; have z0 := kept_free hb4 hsz f0; have z1 := kept_free hb4 hsz f1; have z2 := kept_free hb4 hsz f2; have HB4 := Lib.hid hb4; clear m0 m1 m2 f0 f1 f2 hb4)
      have H1 := fun i (hi : i < j) => (HD.out i hi).of (w' := w4) (HB4.out.block _ hsz)
      have H2 := fun i (hi : i < K) => (And.intro (let ⟨q, hq⟩ := (HP.out i hi).1; (⟨q, hq.of (HB4.out.block _ hsz)⟩ : ∃ q, PtCell w4 w.heap.size (i * 3) q)) ((HP.out i hi).2.of (w' := w4) (HB4.out.block _ hsz)))
      obtain ⟨a1, a2⟩ := rowStep hlt HQ.out H1 H2
      exact ⟨⟨j + 1, hlt, by go_num, a1, a2, by simpa using Nat.lt_of_lt_of_le hsz HB4.out.size, below_set3 (HBR.out.trans (HB4.out.mono (Nat.le_of_lt hsz))) (Nat.le_refl _) _ _ _⟩, by simp [RowKit.intOf]; omega⟩
    · obtain rfl : j = K := by omega
      have hjj : ¬ ((j : Int) < (j : Int)) := by omega
      clear hdone hopen hbr
      go_wp2_with fail
      go_ret
      refine ⟨_, rfl, ?_, HBR.out⟩
      intro _
      exact ⟨w.heap.size, rfl, Nat.le_refl _, hsz, fun i hi => ⟨HD.out i (by rw [HK.out]; exact hi), (HP.out i (by rw [HK.out]; exact hi)).2⟩⟩

theorem eqClue_any (t p o : Int) (w : World) :
    Calls Tryd.prog 103 #[.agg #[.int .i64 t, .int .i64 p, .int .i64 o], .agg #[.int .i64 t, .int .i64 p, .int .i64 o]] w fun e w' => e = .returned (.bool true) ∧ Below w.heap.size w w' := by
  go_enter Tryd.func103, Tryd.ntmps103
  go_wp2
  go_ret
  exact ⟨rfl, ((Below.refl _ _).alloc (Nat.le_refl _) _).alloc (by simp) _⟩

set_option maxRecDepth 100000 in
set_option maxHeartbeats 4000000 in
theorem eqClueS_any (ps : List Pt) (v v' : Value) (w : World) (hl : ps.length ≤ 1048576) (h : PartsIn w v ps) (h' : PartsIn w v' ps) :
    Calls Tryd.prog 65 #[v, v'] w fun e w' => e = .returned (.bool true) ∧ Below w.heap.size w w' := by
  obtain ⟨a, c, rfl, hx⟩ := h.rd
  obtain ⟨a', c', rfl, hx'⟩ := h'.rd
  obtain ⟨L, hL⟩ : ∃ L, L = ps.length := ⟨_, rfl⟩
  rw [← hL] at hl hx hx' ⊢
  have hl2 : (L : Int) ≤ 1048576 := by omega
  have H := Lib.hid hx
  have H' := Lib.hid hx'
  clear hL hl h h' hx hx'
  go_enter Tryd.func65, Tryd.ntmps65
  go_wp2_with fail
  go_loopw [5] (fun i wr => ∃ k : Nat, k ≤ L ∧ i = .int .i64 k ∧ Below w.heap.size w wr) (fun i _ => L - (RowKit.intOf i).toNat)
  case atStart => exact ⟨0, Nat.zero_le _, rfl, Below.refl _ _⟩
  case round =>
    obtain ⟨k, hk, rfl, hb⟩ := hrel
    by_cases hlt : k < L
    · obtain ⟨g, rfl, hg, q⟩ := H.out k hlt
      obtain ⟨g', rfl, hg', q'⟩ := H'.out k hlt
      have q2 := q.of (hb.block g hg)
      have q2' := q'.of (hb.block g' hg')
      clear q q'
      obtain ⟨pt, hpt⟩ : ∃ pt, ps.getD k pt0 = pt := ⟨_, rfl⟩
      rw [hpt] at q2 q2'
      obtain ⟨t, p, o⟩ := pt
      obtain ⟨k0, k1, k2⟩ := q2
      obtain ⟨k0', k1', k2'⟩ := q2'
      dsimp only at k0 k1 k2 k0' k1' k2'
      have hk0 : (0 : Int) ≤ (k : Int) := by omega
      have hk1 : (k : Int) < (L : Int) := by omega
      have HB := Lib.hid hb
      have HE := Lib.hid (fun w => eqClue_any t p o w)
      clear hpt hb
      go_wp2_with fail
      go_region_with (go_at_call 103; refine (HE.out _).mono ?_; rintro e w4 ⟨rfl, hb4⟩)
      all_goals go_wp2_with fail
      all_goals exact ⟨⟨k + 1, hlt, by go_num, (by first | exact HB.out.trans (hb4.mono HB.out.size) | exact HB.out.drew.trans (hb4.mono HB.out.drew.size) | exact (below_drewN HB.out _).trans (hb4.mono (below_drewN HB.out _).size))⟩, by simp [RowKit.intOf]; omega⟩
    · obtain rfl : k = L := by omega
      have hkk : ¬ ((k : Int) < (k : Int)) := by omega
      have HB := Lib.hid hb
      clear hb
      go_wp2_with fail
      go_ret
      exact ⟨rfl, HB.out⟩

/-- The numbers k, k + 1, .. in a row of parts. -/
def markPt (k : Int) (L : Nat) : List Pt := (List.range L).map fun (i : Nat) => (k + 3 * (i : Int), k + 3 * (i : Int) + 1, k + 3 * (i : Int) + 1 + 1)
theorem markPt_length (k : Int) (L : Nat) : (markPt k L).length = L := by simp [markPt]
theorem markPt_at {k : Int} {L j : Nat} (h : j < L) : (markPt k L).getD j pt0 = (k + 3 * (j : Int), k + 3 * (j : Int) + 1, k + 3 * (j : Int) + 1 + 1) := by
  simp [markPt, List.getD_eq_getElem?_getD, h]

set_option maxRecDepth 100000 in
set_option maxHeartbeats 4000000 in
theorem markClueS_any (ps : List Pt) (lo hi : Nat) (a : Option Addr) (cap : Nat) (w : World) (hh : hi ≤ w.heap.size) (hl : ps.length ≤ 1048576) (hx : PRow w lo hi a ps) :
    Calls Tryd.prog 69 #[.slice a ps.length cap, .int .i64 1] w fun e w' => e = .returned (.int .i64 (1 + 3 * (ps.length : Int))) ∧ Touch lo hi w w' ∧ PRow w' lo hi a (markPt 1 ps.length) := by
  obtain ⟨L, hL⟩ : ∃ L, L = ps.length := ⟨_, rfl⟩
  rw [← hL] at hl ⊢
  have hl2 : (L : Int) ≤ 1048576 := by omega
  have H : Hid (0 < L → ∃ g, a = some ⟨g, 0, none⟩ ∧ lo ≤ g ∧ g < hi ∧ ∀ j, j < L → (∃ q, PtCell w g (j * 3) q) ∧ PtFree w g (j * 3)) := Lib.hid (fun hp => by
    obtain ⟨g, e, a1, a2, a3⟩ := hx (by intro e; rw [e] at hL; simp at hL; omega)
    exact ⟨g, e, a1, a2, fun j hj => ⟨⟨_, (a3 j (by rw [← hL]; exact hj)).1⟩, (a3 j (by rw [← hL]; exact hj)).2⟩⟩)
  have HM := Lib.hid (fun j (hj : j < L) => markPt_at (k := 1) hj)
  clear hL hl hx
  go_enter Tryd.func69, Tryd.ntmps69
  go_wp2_with fail
  go_loopw [1, 5] (fun m i wr => ∃ k : Nat, k ≤ L ∧ i = .int .i64 k ∧ m = .int .i64 (1 + 3 * (k : Int)) ∧ Touch lo hi w wr ∧ (0 < L → ∃ g, a = some ⟨g, 0, none⟩ ∧ lo ≤ g ∧ g < hi ∧ (∀ j, j < k → PtCell wr g (j * 3) ((markPt 1 L).getD j pt0)) ∧ (∀ j, j < L → (∃ q, PtCell wr g (j * 3) q) ∧ PtFree wr g (j * 3)))) (fun _ i _ => L - (intOf i).toNat)
  case atStart =>
    refine ⟨0, Nat.zero_le _, rfl, by simp, Touch.refl _ _ _, fun hp => ?_⟩
    obtain ⟨g, e, a1, a2, a3⟩ := H.out hp
    exact ⟨g, e, a1, a2, by simp, a3⟩
  case round =>
    obtain ⟨k, hk, rfl, rfl, hb, hh3⟩ := hrel
    by_cases hlt : k < L
    · obtain ⟨g, rfl, g1, g2, h1', h2⟩ := hh3 (by omega)
      obtain ⟨⟨⟨x, y, z⟩, q0, q1, q2⟩, f0, f1, f2⟩ := h2 k hlt
      dsimp only at q0 q1 q2
      have HMK := Lib.hid (HM.out k hlt)
      obtain ⟨mm, hmm⟩ : ∃ mm : Int, 1 + 3 * (k : Int) = mm := ⟨_, rfl⟩
      rw [hmm] at HMK
      rw [hmm]
      have HST := Lib.hid (rowStep hlt HMK.out h1' h2)
      have HG := Lib.hid (And.intro g1 g2)
      have hlt2 : (k : Int) < (L : Int) := by omega
      have hm1 : 0 ≤ mm := by omega
      have hm2 : mm ≤ 4000000 := by omega
      have HMM : Hid (1 + 3 * ((k + 1 : Nat) : Int) = mm + 1 + 1 + 1) := Lib.hid (by omega)
      clear h1' h2 hh3 hmm
      go_wp2
      refine ⟨⟨k + 1, hlt, by go_num, by rw [HMM.out], touch_set3 hb HG.out.1 HG.out.2 _ _ _, fun _ => ⟨g, rfl, HG.out.1, HG.out.2, HST.out.1, HST.out.2⟩⟩, by simp [intOf]; omega⟩
    · obtain rfl : k = L := by omega
      have hrow : PRow wr lo hi a (markPt 1 k) := by
        intro hn
        have hk0 : 0 < k := by
          rcases Nat.eq_zero_or_pos k with e | e
          · subst e; exact (hn rfl).elim
          · exact e
        obtain ⟨g, e, g1, g2, a1, a2⟩ := hh3 hk0
        refine ⟨g, e, g1, g2, fun j hj => ?_⟩
        rw [markPt_length] at hj
        exact ⟨a1 j hj, (a2 j hj).2⟩
      have HROW := Lib.hid hrow
      have hlt2 : ¬ ((k : Int) < (k : Int)) := by omega
      clear hh3 hrow
      go_wp2
      go_ret
      exact ⟨rfl, hb, HROW.out⟩

set_option maxRecDepth 100000 in
set_option maxHeartbeats 4000000 in
theorem heldClueS_any (L : Nat) (lo hi : Nat) (a : Option Addr) (cap : Nat) (w : World) (hl : L ≤ 1048576) (hx : PRow w lo hi a (markPt 1 L)) :
    Calls Tryd.prog 70 #[.slice a L cap, .int .i64 1] w fun e w' => e = .returned (.int .i64 (1 + 3 * (L : Int))) ∧ w = w' := by
  have hl2 : (L : Int) ≤ 1048576 := by omega
  have H : Hid (∀ j, j < L → ∃ g, a = some ⟨g, 0, none⟩ ∧ PtCell w g (j * 3) (1 + 3 * (j : Int), 1 + 3 * (j : Int) + 1, 1 + 3 * (j : Int) + 1 + 1)) := Lib.hid (fun j hj => by
    obtain ⟨g, e, a1, a2, a3⟩ := hx (by intro e; have := markPt_length 1 L; rw [e] at this; simp at this; omega)
    exact ⟨g, e, by rw [← markPt_at (k := 1) hj]; exact (a3 j (by rw [markPt_length]; exact hj)).1⟩)
  clear hl hx
  go_enter Tryd.func70, Tryd.ntmps70
  go_wp2_with fail
  go_loop [1, 5] (fun m i => ∃ k : Nat, k ≤ L ∧ i = .int .i64 k ∧ m = .int .i64 (1 + 3 * (k : Int))) (fun _ i => L - (intOf i).toNat)
  case atStart => exact ⟨0, Nat.zero_le _, rfl, by simp⟩
  case round =>
    obtain ⟨k, hk, rfl, rfl⟩ := hrel
    by_cases hlt : k < L
    · obtain ⟨g, rfl, q0, q1, q2⟩ := H.out k hlt
      dsimp only at q0 q1 q2
      have hlt2 : (k : Int) < (L : Int) := by omega
      obtain ⟨mm, hmm⟩ : ∃ mm : Int, 1 + 3 * (k : Int) = mm := ⟨_, rfl⟩
      rw [hmm] at q0 q1 q2
      rw [hmm]
      have hm1 : 0 ≤ mm := by omega
      have hm2 : mm ≤ 4000000 := by omega
      have HMM : Hid (1 + 3 * ((k + 1 : Nat) : Int) = mm + 1 + 1 + 1) := Lib.hid (by omega)
      clear hmm
      go_wp2
      exact ⟨⟨k + 1, hlt, by go_num, by rw [HMM.out]⟩, by simp [intOf]; omega⟩
    · obtain rfl : k = L := by omega
      have hlt2 : ¬ ((k : Int) < (k : Int)) := by omega
      go_wp2
      go_ret
      exact ⟨rfl, rfl⟩

theorem toMap_anyP (t p : Int) (w : World) :
    Calls Tryd.prog 9 #[.agg #[.int .i64 t, .int .i64 p]] w fun e w' => e = .returned (.agg #[.int .i64 t, .int .i64 p]) ∧ Below w.heap.size w w' := by
  go_enter Tryd.func9, Tryd.ntmps9
  go_wp2
  exact bodyPost_ret (v := .agg #[.int .i64 t, .int .i64 p]) (by simp [results, Tryd.results9, go_sem]) rfl ⟨rfl, (((Below.refl _ _).alloc (Nat.le_refl _) _).alloc (by simp) _).alloc (by simp; omega) _⟩
theorem eqMap_anyP (t p : Int) (w : World) :
    Calls Tryd.prog 64 #[.agg #[.int .i64 t, .int .i64 p], .agg #[.int .i64 t, .int .i64 p]] w fun e w' => e = .returned (.bool true) ∧ Below w.heap.size w w' := by
  go_enter Tryd.func64, Tryd.ntmps64
  go_wp2
  go_ret
  exact ⟨rfl, ((Below.refl _ _).alloc (Nat.le_refl _) _).alloc (by simp) _⟩

theorem eqPuzzle_any (t p : Int) (ps : List Pt) (v v' : Value) (w : World) (hl : ps.length ≤ 1048576) (h : PuzIn w v t p ps) (h' : PuzIn w v' t p ps) :
    Calls Tryd.prog 28 #[v, v'] w fun e w' => e = .returned (.bool true) ∧ Below w.heap.size w w' := by
  obtain ⟨v1, rfl, i1⟩ := h.parts
  obtain ⟨v1', rfl, i1'⟩ := h'.parts
  clear h h'
  have HC := Lib.hid (fun W (hb : Below w.heap.size w W) => eqClueS_any ps v1 v1' W hl (i1.kept hb) (i1'.kept hb))
  clear i1 i1' hl
  have HM := Lib.hid (fun W => eqMap_anyP t p W)
  have B1 := Lib.hid (Bz.new w t p v1 55)
  have B1' := Lib.hid (Bz.new (w.alloc (.cells #[.int .i64 t, .int .i64 p, v1] 55)) t p v1' 55)
  replace B1 := Lib.hid (B1.out.grow (.cells #[.int .i64 t, .int .i64 p, v1'] 55))
  have HB := Lib.hid (((Below.refl w.heap.size w).alloc (Nat.le_refl _) (.cells #[.int .i64 t, .int .i64 p, v1] 55)).alloc (by simp) (.cells #[.int .i64 t, .int .i64 p, v1'] 55))
  go_enter Tryd.func28, Tryd.ntmps28
  go_wp2_with fail
  refine (HM.out _).mono ?_
  rintro e w1 ⟨rfl, hb1⟩
  replace B1 := Lib.hid (B1.out.kept hb1)
  replace B1' := Lib.hid (B1'.out.kept hb1)
  replace HB := Lib.hid (HB.out.trans (hb1.mono HB.out.size))
  clear hb1
  obtain ⟨⟨p0, p1, p2⟩, p3⟩ := B1.out
  obtain ⟨⟨q0, q1, q2⟩, q3⟩ := B1'.out
  simp only [World.size_alloc] at q0 q1 q2 q3
  go_wp2_with fail
  refine (HC.out _ HB.out).mono ?_
  rintro e w2 ⟨rfl, hb2⟩
  have HB2 := Lib.hid (HB.out.trans (hb2.mono HB.out.size))
  clear hb2
  go_wp2_with fail
  go_ret
  exact ⟨rfl, HB2.out⟩

theorem markPuzzle_any (t p : Int) (ps : List Pt) (v : Value) (lo hi : Nat) (w : World) (hl : ps.length ≤ 1048576) (h : PuzAt w lo hi v t p ps) :
    Calls Tryd.prog 31 #[v, .int .i64 1] w fun e w' => e = .returned (.int .i64 (1 + 3 * (ps.length : Int))) ∧ Touch lo hi w w' ∧ PuzAt w' lo hi v t p (markPt 1 ps.length) := by
  obtain ⟨hh, a, c, rfl, h0, q⟩ := h
  have H0 : Hid ((markPt 1 ps.length).length ≤ c ∧ c ≤ maxLen) := Lib.hid (by rw [markPt_length]; exact h0)
  clear h0
  have HC := Lib.hid (fun W (hs : hi ≤ W.heap.size) (hq : PRow W lo hi a ps) => markClueS_any ps lo hi a c W hs hl hq)
  have HH := Lib.hid hh
  have Q := Lib.hid (q.of (w' := w.alloc (.cells #[.int .i64 t, .int .i64 p, .slice a ps.length c] 55)) (fun g _ hg => ((Below.refl w.heap.size w).alloc (Nat.le_refl _) _).block g (by omega)))
  have HML : Hid ((markPt 1 ps.length).length = ps.length) := Lib.hid (markPt_length _ _)
  clear q hl hh
  go_enter Tryd.func31, Tryd.ntmps31
  go_wp2_with fail
  refine (HC.out _ (by have := HH.out; simp; omega) Q.out).mono ?_
  rintro e w1 ⟨rfl, t1, r1⟩
  have T1 := Lib.hid ((Touch.of_below ((Below.refl w.heap.size w).alloc (Nat.le_refl _) (.cells #[.int .i64 t, .int .i64 p, .slice a ps.length c] 55))).trans t1)
  have R1 := Lib.hid r1
  clear t1 r1
  go_wp2_with fail
  go_ret
  refine ⟨rfl, T1.out, ⟨by have := T1.out.size; have := HH.out; omega, a, c, by rw [HML.out], H0.out, R1.out⟩⟩

theorem heldPuzzle_any (n : Nat) (t p : Int) (v : Value) (lo hi : Nat) (w : World) (hl : n ≤ 1048576) (h : PuzAt w lo hi v t p (markPt 1 n)) :
    Calls Tryd.prog 32 #[v, .int .i64 1] w fun e w' => e = .returned (.int .i64 (1 + 3 * (n : Int))) ∧ Below w.heap.size w w' := by
  obtain ⟨hh, a, c, rfl, h0, q⟩ := h
  clear h0
  rw [markPt_length]
  have HC := Lib.hid (fun W (hq : PRow W lo hi a (markPt 1 n)) => heldClueS_any n lo hi a c W hl hq)
  have Q := Lib.hid (q.of (w' := w.alloc (.cells #[.int .i64 t, .int .i64 p, .slice a n c] 55)) (fun g _ hg => ((Below.refl w.heap.size w).alloc (Nat.le_refl _) _).block g (by omega)))
  have hd : ¬ (1 + 3 * (n : Int) < 0) := by omega
  clear q hl hh
  go_enter Tryd.func32, Tryd.ntmps32
  go_wp2_with fail
  refine (HC.out _ Q.out).mono ?_
  rintro e w1 ⟨rfl, rfl⟩
  go_wp2_with fail
  go_ret
  exact ⟨rfl, (Below.refl w.heap.size w).alloc (Nat.le_refl _) _⟩

set_option maxHeartbeats 1000000 in
theorem toPuzzle_any (t p : Int) (ps : List Pt) (v : Value) (w : World) (hl : ps.length ≤ 1048576) (h : ArgZ w v t p ps) :
    Calls Tryd.prog 26 #[v] w fun e w' => ∃ v', e = .returned v' ∧ PuzAt w' w.heap.size w'.heap.size v' t p ps ∧ Below w.heap.size w w' := by
  obtain ⟨u, rfl, hp⟩ := h
  have HC := Lib.hid (fun W (hb : Below w.heap.size w W) => toClueS_any ps u W hl (hp.kept hb (Nat.le_refl _)))
  have HM := Lib.hid (fun W => toMap_anyP t p W)
  obtain ⟨a, c, rfl, _, _⟩ := hp
  clear hl
  obtain ⟨W0, hW0⟩ : ∃ W0, W0 = (((w.alloc (.cells #[.int .i64 t, .int .i64 p, .slice a ps.length c] 49)).alloc (.cells #[.int .i64 0, .int .i64 0, .slice none 0 0] 55)).alloc (.cells #[.int .i64 0, .int .i64 0, .slice none 0 0] 55)) := ⟨_, rfl⟩
  have hb0 : Below w.heap.size w W0 := by rw [hW0]; exact (((Below.refl _ w).alloc (Nat.le_refl _) _).alloc (by simp) _).alloc (by simp; omega) _
  have hz0 : W0.heap.size = w.heap.size + 3 := by rw [hW0]; simp
  have HBA : Hid (Bz W0 w.heap.size t p (.slice a ps.length c)) := Lib.hid (by rw [hW0]; exact ((Bz.new _ _ _ _ _).grow _).grow _)
  have HBR : Hid (Bz W0 (w.heap.size + 1) 0 0 (.slice none 0 0)) := Lib.hid (by rw [hW0]; exact ⟨⟨by go_simp, by go_simp, by go_simp⟩, by simp⟩)
  have HBO : Hid (Bz W0 (w.heap.size + 1 + 1) 0 0 (.slice none 0 0)) := Lib.hid (by rw [hW0]; exact ⟨⟨by go_simp, by go_simp, by go_simp⟩, by simp⟩)
  have HFZ : Hid (∀ b o, w.heap.size < b → b < w.heap.size + 3 → W0.frozen? ⟨b, o, none⟩ = false) := Lib.hid (fun b o h1 h2 => by
    rw [hW0]
    have : b = w.heap.size + 1 ∨ b = w.heap.size + 1 + 1 := by omega
    rcases this with rfl | rfl <;> go_simp)
  have HB0 := Lib.hid hb0
  have HZ0 := Lib.hid hz0
  clear hb0 hz0
  go_enter Tryd.func26, Tryd.ntmps26
  go_wp2_with fail
  rw [← hW0]
  refine (HM.out _).mono ?_
  rintro e w1 ⟨rfl, hb1⟩
  clear hW0
  replace HBA := Lib.hid (HBA.out.kept hb1)
  replace HBR := Lib.hid (HBR.out.kept hb1)
  replace HBO := Lib.hid (HBO.out.kept hb1)
  replace HFZ : Hid (∀ b o, w.heap.size < b → b < w.heap.size + 3 → w1.frozen? ⟨b, o, none⟩ = false) := Lib.hid (fun b o h1 h2 => (hb1.frozen (p := ⟨b, o, none⟩) (by have := HZ0.out; simp; omega)).trans (HFZ.out b o h1 h2))
  have HB1 := Lib.hid (HB0.out.trans (hb1.mono HB0.out.size))
  have HZ1 : Hid (w.heap.size + 3 ≤ w1.heap.size) := Lib.hid (by rw [← HZ0.out]; exact hb1.size)
  clear hb1 HB0 HZ0
  obtain ⟨⟨a0, a1, a2⟩, a3⟩ := HBA.out
  obtain ⟨⟨o0, o1, o2⟩, o3⟩ := HBO.out
  have f0 := HFZ.out (w.heap.size + 1 + 1) 0 (by omega) (by omega)
  have f1 := HFZ.out (w.heap.size + 1 + 1) 1 (by omega) (by omega)
  go_wp2_with fail
  refine (HC.out _ ((HB1.out.setCell (by simp; omega) _).setCell (by simp; omega) _)).mono ?_
  rintro e w2 ⟨g2, rfl, row2, hb2⟩
  have hs2 : w1.heap.size ≤ w2.heap.size := by have := hb2.size; simpa using this
  simp only [World.size_setCell] at hb2 row2
  have hz1 := HZ1.out
  have cell2 : ∀ b o, b < w1.heap.size → w2.cell? ⟨b, o, none⟩ = ((w1.setCell ⟨w.heap.size + 1 + 1, 0, none⟩ (.int .i64 t)).setCell ⟨w.heap.size + 1 + 1, 1, none⟩ (.int .i64 p)).cell? ⟨b, o, none⟩ := fun b o h => hb2.cell (p := ⟨b, o, none⟩) h
  have fz2 : ∀ b o, b < w1.heap.size → w2.frozen? ⟨b, o, none⟩ = w1.frozen? ⟨b, o, none⟩ := fun b o h => (hb2.frozen (p := ⟨b, o, none⟩) h).trans (by rw [World.frozen?_setCell, World.frozen?_setCell])
  have u0 : w2.cell? ⟨w.heap.size + 1 + 1, 0, none⟩ = some (.int .i64 t) := (cell2 _ _ (by omega)).trans ((World.cell?_setCell_other _ _ _ _ (by simp)).trans (World.cell?_setCell_same' _ _ _ (by rw [o0]; rfl)))
  have u1 : w2.cell? ⟨w.heap.size + 1 + 1, 1, none⟩ = some (.int .i64 p) := (cell2 _ _ (by omega)).trans (World.cell?_setCell_same' _ _ _ (by rw [World.cell?_setCell_other _ _ _ _ (by simp), o1]; rfl))
  have u2 : w2.cell? ⟨w.heap.size + 1 + 1, 2, none⟩ = some (.slice none 0 0) := (cell2 _ _ (by omega)).trans ((World.cell?_setCell_other _ _ _ _ (by simp)).trans ((World.cell?_setCell_other _ _ _ _ (by simp)).trans o2))
  have r0 : w2.cell? ⟨w.heap.size + 1, 0, none⟩ = some (.int .i64 0) := (cell2 _ _ (by omega)).trans ((World.cell?_setCell_other _ _ _ _ (by simp)).trans ((World.cell?_setCell_other _ _ _ _ (by simp)).trans HBR.out.1.1))
  have r1 : w2.cell? ⟨w.heap.size + 1, 1, none⟩ = some (.int .i64 0) := (cell2 _ _ (by omega)).trans ((World.cell?_setCell_other _ _ _ _ (by simp)).trans ((World.cell?_setCell_other _ _ _ _ (by simp)).trans HBR.out.1.2.1))
  have r2 : w2.cell? ⟨w.heap.size + 1, 2, none⟩ = some (.slice none 0 0) := (cell2 _ _ (by omega)).trans ((World.cell?_setCell_other _ _ _ _ (by simp)).trans ((World.cell?_setCell_other _ _ _ _ (by simp)).trans HBR.out.1.2.2))
  have z2 := (fz2 (w.heap.size + 1 + 1) 2 (by omega)).trans (HFZ.out (w.heap.size + 1 + 1) 2 (by omega) (by omega))
  have y0 := (fz2 (w.heap.size + 1) 0 (by omega)).trans (HFZ.out (w.heap.size + 1) 0 (by omega) (by omega))
  have y1 := (fz2 (w.heap.size + 1) 1 (by omega)).trans (HFZ.out (w.heap.size + 1) 1 (by omega) (by omega))
  have y2 := (fz2 (w.heap.size + 1) 2 (by omega)).trans (HFZ.out (w.heap.size + 1) 2 (by omega) (by omega))
  have HROW := Lib.hid row2
  have HB2 : Hid (Below w.heap.size w w2) := Lib.hid (((HB1.out.setCell (by simp; omega) _).setCell (by simp; omega) _).trans (hb2.mono (by omega)))
  have HSZ : Hid (w.heap.size + 3 ≤ w1.heap.size ∧ w1.heap.size ≤ w2.heap.size) := Lib.hid ⟨hz1, hs2⟩
  have HCAP : Hid (ps.length ≤ maxLen) := Lib.hid (by assumption)
  clear row2 hb2 cell2 fz2 o0 o1 o2 o3 a0 a1 a2 a3 f0 f1 hs2 hz1
  go_wp2_with fail
  refine bodyPost_ret (v := .agg #[.int .i64 t, .int .i64 p, .slice g2 ps.length ps.length]) (by simp [results, Tryd.f26, go_sem, r0, r1, r2]) rfl ⟨_, rfl, ⟨Nat.le_refl _, g2, ps.length, rfl, ⟨Nat.le_refl _, HCAP.out⟩, ?_⟩, ?_⟩
  · simp only [World.size_setCell]
    refine PRow.wide (lo := w1.heap.size) (hi := w2.heap.size) ?_ (by have := HSZ.out.1; omega) (Nat.le_refl _)
    refine HROW.out.of (fun g hg _ => ?_)
    have := HSZ.out.1
    rw [Below.heap_setCell _ _ _ _ (by simp; omega), Below.heap_setCell _ _ _ _ (by simp; omega), Below.heap_setCell _ _ _ _ (by simp; omega), Below.heap_setCell _ _ _ _ (by simp; omega)]
  · exact (((HB2.out.setCell (by simp; omega) _).setCell (by simp) _).setCell (by simp) _).setCell (by simp) _
end Go.Proofs.YtgobjobppajkbaaDoor
