/-
  'pzParse' of the model (gen_pzp.py).
  'pzParse' of the model at any text; 'ParsePuzzle' of the model.
  'ParsePuzzle' of the model.
-/
import Derived.Test.YtgobjobppajkbaaDoorMpA
import Derived.Test.YtgobjobppajkbaaDoorClO
import Derived.Test.YtgobjobppajkbaaDoorPtS
import Derived.Deep.RegionHeld3
import Derived.Deep.CutRange
namespace Go.Proofs.YtgobjobppajkbaaDoor
open Go.RowKit
set_option linter.unusedVariables false

theorem puz_nil (w : World) (B : Nat) : PuzAt w B w.heap.size (.agg #[.int .i64 0, .int .i64 0, .slice none 0 0]) 0 0 [] := ⟨Nat.le_refl _, none, 0, rfl, ⟨Nat.le_refl _, Nat.zero_le _⟩, fun h => (h rfl).elim⟩
theorem addr_jP (g j : Nat) : (⟨g, 0, none⟩ : Addr).add j = ⟨g, j, none⟩ := by cases j <;> simp [Addr.add]
theorem two_ofP : ∀ {l : List (List UInt8)}, l.length = 2 → ∃ a b, l = [a, b]
  | [a, b], _ => ⟨a, b, rfl⟩

set_option maxRecDepth 100000 in
set_option maxHeartbeats 4000000 in
theorem pzParse_long (l : List UInt8) (hl : 160 < (l.length : Int)) (w : World) :
    Calls Tryd.prog 66 #[.string (byt l)] w (RetPuz 0 0 [] false w) := by
  have hsz : (((byt l).size : Nat) : Int) = (l.length : Int) := by rw [dbl]
  have HR := Lib.hid (BzF.new w 0 0 (.slice none 0 0) 55 rfl)
  have HB := Lib.hid (below_alloc w (.cells #[.int .i64 0, .int .i64 0, .slice none 0 0] 55))
  obtain ⟨r0, r1, r2, f0, f1, f2⟩ := HR.out.cells
  go_enter Tryd.func66, Tryd.ntmps66
  go_wp2_with fail
  refine bodyPost_ret (v := .tuple #[.agg #[.int .i64 0, .int .i64 0, .slice none 0 0], .bool false]) (by simp [results, Tryd.f66, go_sem]) rfl ⟨_, rfl, puz_nil _ _, HB.out⟩

set_option maxRecDepth 100000 in
set_option maxHeartbeats 4000000 in
theorem pzParse_parts (l : List UInt8) (hl : (l.length : Int) ≤ 160) (h2 : (spl 58 l).length ≠ 2) (w : World) :
    Calls Tryd.prog 66 #[.string (byt l)] w (RetPuz 0 0 [] false w) := by
  have hsz : (((byt l).size : Nat) : Int) = (l.length : Int) := by rw [dbl]
  have hl2 : ¬ 160 < (l.length : Int) := by omega
  have HS := Lib.hid (fun W => l1Split_any l 58 (by omega) W)
  have HNE := Lib.hid (List.length_pos_iff.2 (spl_ne 58 l))
  have hn2 : ¬ ((((spl 58 l).length : Nat) : Int) = 2) := by omega
  have HR := Lib.hid (BzF.new w 0 0 (.slice none 0 0) 55 rfl)
  have HB := Lib.hid (below_alloc w (.cells #[.int .i64 0, .int .i64 0, .slice none 0 0] 55))
  clear h2
  go_enter Tryd.func66, Tryd.ntmps66
  go_wp2_with fail
  refine (HS.out _).mono ?_
  rintro e w1 ⟨v1, rfl, hrow, hb1⟩
  obtain ⟨g, cap, rfl, hg1, hg2⟩ := World.ownsRow.form hrow HNE.out
  replace HR := Lib.hid (HR.out.kept hb1)
  replace HB := Lib.hid (HB.out.trans (hb1.mono HB.out.size))
  obtain ⟨r0, r1, r2, f0, f1, f2⟩ := HR.out.cells
  have hz := HR.out.1.2
  clear hrow hb1
  go_wp2_with fail
  obtain ⟨g0, g1, g2⟩ := put3_cells HR.out 0 0 (.slice none 0 0)
  unfold put3 at g0 g1 g2
  refine bodyPost_ret (v := .tuple #[.agg #[.int .i64 0, .int .i64 0, (.slice none 0 0)], .bool false]) (by simp [results, Tryd.f66, go_sem, g0, g1, g2]) rfl ⟨_, rfl, puz_nil _ _, ?_⟩
  exact put3_below HB.out (Nat.le_refl _) _ _ _

set_option maxRecDepth 100000 in
set_option maxHeartbeats 4000000 in
theorem pzParse_map (l a b : List UInt8) (hl : (l.length : Int) ≤ 160) (hab : spl 58 l = [a, b]) (hm : (rdm (byt a)).1 = 0) (w : World) :
    Calls Tryd.prog 66 #[.string (byt l)] w (RetPuz 0 0 [] false w) := by
  have hsz : (((byt l).size : Nat) : Int) = (l.length : Int) := by rw [dbl]
  have hl2 : ¬ 160 < (l.length : Int) := by omega
  have HS := Lib.hid (fun W => l1Split_any l 58 (by omega) W)
  have HM := Lib.hid (fun W => mpParse_any (byt a) W)
  rw [hm, show decide ((0 : Int) ≠ 0) = false from rfl] at HM
  generalize (rdm (byt a)).2 = p0 at *
  rw [hab] at HS
  have HR := Lib.hid (BzF.new w 0 0 (.slice none 0 0) 55 rfl)
  have HB := Lib.hid (below_alloc w (.cells #[.int .i64 0, .int .i64 0, .slice none 0 0] 55))
  clear hab hm
  go_enter Tryd.func66, Tryd.ntmps66
  go_wp2_with fail
  refine (HS.out _).mono ?_
  rintro e w1 ⟨v1, rfl, hrow, hb1⟩
  obtain ⟨g, cap, rfl, hg1, hg2⟩ := World.ownsRow.form hrow (by simp)
  have hc0 : w1.cell? ⟨g, 0, none⟩ = some (.string (byt a)) := by
    have h := hrow.cells (g := g) rfl 0 (.string (byt a)) rfl
    rwa [addr_jP] at h
  replace HR := Lib.hid (HR.out.kept hb1)
  replace HB := Lib.hid (HB.out.trans (hb1.mono HB.out.size))
  have hz := HR.out.1.2
  clear hrow hb1
  go_wp2_with fail
  refine (HM.out _).mono ?_
  rintro e w2 ⟨rfl, hb2⟩
  replace HR := Lib.hid ((HR.out.kept hb2).kept (below_alloc w2 (.cells #[.int .i64 0, .int .i64 p0] 27)))
  replace HB := Lib.hid ((HB.out.trans (hb2.mono HB.out.size)).trans ((below_alloc w2 (.cells #[.int .i64 0, .int .i64 p0] 27)).mono (HB.out.trans (hb2.mono HB.out.size)).size))
  obtain ⟨r0, r1, r2, f0, f1, f2⟩ := HR.out.cells
  have hz2 := HR.out.1.2
  clear hb2 hz
  go_wp2_with fail
  obtain ⟨g0, g1, g2⟩ := put3_cells HR.out 0 0 (.slice none 0 0)
  unfold put3 at g0 g1 g2
  refine bodyPost_ret (v := .tuple #[.agg #[.int .i64 0, .int .i64 0, (.slice none 0 0)], .bool false]) (by simp [results, Tryd.f66, go_sem, g0, g1, g2]) rfl ⟨_, rfl, puz_nil _ _, ?_⟩
  exact put3_below HB.out (Nat.le_refl _) _ _ _

theorem infoClP : (Tryd.prog.info? 93).map (fun i => (i.zero, i.size, i.bytes)) = some (some (.agg #[.int .i64 0, .int .i64 0, .int .i64 0]), 3, 24) := by kernel_rfl
/-- What comes of the clues' pieces. -/
def RetCl (t p : Int) (l : List UInt8) (ps : List (List UInt8)) (w : World) : Ending → World → Prop := if qcT ps = true then RetPuz t p (ps.map qcC) (pzB t p (ps.map qcC) && decide (pzX t p (ps.map qcC) = byt l)) w else RetPuz 0 0 [] false w
theorem RetCl.bad {t p : Int} {l : List UInt8} {ps : List (List UInt8)} {w : World} (h : qcT ps = false) : RetCl t p l ps w = RetPuz 0 0 [] false w := by rw [RetCl, if_neg (by rw [h]; simp)]
theorem RetCl.ok {t p : Int} {l : List UInt8} {ps : List (List UInt8)} {w : World} (h : qcT ps = true) : RetCl t p l ps w = RetPuz t p (ps.map qcC) (pzB t p (ps.map qcC) && decide (pzX t p (ps.map qcC) = byt l)) w := by rw [RetCl, if_pos h]
theorem three_ofP : ∀ {l : List (List UInt8)}, l.length = 3 → ∃ a b c, l = [a, b, c]
  | [a, b, c], _ => ⟨a, b, c, rfl⟩
theorem np_putP {Q : Exit → Act → World → Prop} {d : Option Tmp} {v : Value} : ∀ c (a : Act) (w : World), NoPanic Q (Exit.panic c) (a.put d v) w → NoPanic Q (Exit.panic c) a w := fun _ _ _ h => h
theorem bzF_of {w w' : World} {b : Nat} {t p : Int} {x : Value} (h : BzF w b t p x) (hs : w.heap.size ≤ w'.heap.size) (he : w'.heap[b]? = w.heap[b]?) : BzF w' b t p x := ⟨h.1.of hs he, fun o => (World.frozen?_of_block (a := ⟨b, o, none⟩) he).trans (h.2 o)⟩
theorem ret_flag {v : Value} {x y : Bool} (h : x = y) : Ending.returned (.tuple #[v, .bool x]) = .returned (.tuple #[v, .bool y]) := by rw [h]
theorem fl_yes {t p : Int} {qs : List Pt} {l : List UInt8} (h : pzB t p qs = true) (hq : byt (pzT t p qs qs.length) = byt l) : decide (pzX t p qs = byt l) = true := by rw [pzX_yes h]; exact decide_eq_true hq
theorem fl_no {t p : Int} {qs : List Pt} {l : List UInt8} (h : pzB t p qs = true) (hq : ¬ byt (pzT t p qs qs.length) = byt l) : decide (pzX t p qs = byt l) = false := by rw [pzX_yes h]; exact decide_eq_false hq
theorem leafC {w4 w5 : World} {P B : Nat} {t p : Int} {u v5 : Value} {qs : List Pt} {q : Pt} (h : ClsAt w4 B u qs) (hx : BzF w4 P t p u) (hPB : P < B) (hB : B ≤ w4.heap.size)
    (hown : w5.ownsRow B 93 3 v5 (qs.length + 1) (ptCells qs ++ [.int .i64 q.1, .int .i64 q.2.1, .int .i64 q.2.2])) (hg : (w4.drew.alloc (.cells #[.int .i64 q.1, .int .i64 q.2.1, .int .i64 q.2.2] 93)).grownBy w5 u.ownBlock) :
    ClsAt w5 B v5 (qs ++ [q]) ∧ BzF w5 P t p u ∧ KpA B P w4 w5 := by
  have hb : Below w4.heap.size w4 (w4.drew.alloc (.cells #[.int .i64 q.1, .int .i64 q.2.1, .int .i64 q.2.2] 93)) := (Below.refl _ w4).drew.trans (below_alloc w4.drew _)
  have hz := hb.size
  have hlt := hx.1.2
  have hr : ∀ k, u.ownBlock = some k → B ≤ k := fun k e => (World.ownsRow.lt h k e).1
  refine ⟨?_, bzF_of hx (Nat.le_trans hz hg.size) ((hg.block P (by omega) (fun e => by have := hr P e.symm; omega)).trans (hb.block P hlt)), (KpA.of_below hb hB).trans (KpA.grown hg (by omega) hr)⟩
  unfold ClsAt
  rw [ptCells_snoc, List.length_append]
  exact hown
theorem cls_puz {w : World} {B : Nat} {v : Value} {qs : List Pt} (h : ClsAt w B v qs) (t p : Int) : PuzAt w B w.heap.size (.agg #[.int .i64 t, .int .i64 p, v]) t p qs := by
  obtain ⟨a, c, rfl, h1, h2⟩ := h.row
  exact ⟨Nat.le_refl _, a, c, rfl, h1, h2⟩

set_option maxRecDepth 100000 in
set_option maxHeartbeats 4000000 in
theorem pzParse_none (l a : List UInt8) (qs : List Pt) (hqs : qs = []) (hl : (l.length : Int) ≤ 160) (hab : spl 58 l = [a, []]) (hm : (rdm (byt a)).1 ≠ 0) (w : World) :
    Calls Tryd.prog 66 #[.string (byt l)] w (RetPuz (rdm (byt a)).1 (rdm (byt a)).2 qs (pzB (rdm (byt a)).1 (rdm (byt a)).2 qs && decide (pzX (rdm (byt a)).1 (rdm (byt a)).2 qs = byt l)) w) := by
  have hsz : (((byt l).size : Nat) : Int) = (l.length : Int) := by rw [dbl]
  have hsb : (((byt []).size : Nat) : Int) = 0 := rfl
  have hl2 : ¬ 160 < (l.length : Int) := by omega
  have HS := Lib.hid (fun W => l1Split_any l 58 (by omega) W)
  have HM := Lib.hid (fun W => mpParse_any (byt a) W)
  rw [decide_eq_true hm] at HM
  have hg := rdm_good hm
  generalize (rdm (byt a)).1 = t at *
  generalize (rdm (byt a)).2 = p at *
  rw [hab] at HS
  have HR := Lib.hid (BzF.new w 0 0 (.slice none 0 0) 55 rfl)
  have HB := Lib.hid (below_alloc w (.cells #[.int .i64 0, .int .i64 0, .slice none 0 0] 55))
  clear hab hm
  go_enter Tryd.func66, Tryd.ntmps66
  go_wp2_with fail
  refine (HS.out _).mono ?_
  rintro e w1 ⟨v1, rfl, hrow, hb1⟩
  obtain ⟨g, cap, rfl, hg1, hg2⟩ := World.ownsRow.form hrow (by simp)
  have hc0 : w1.cell? ⟨g, 0, none⟩ = some (.string (byt a)) := by
    have h := hrow.cells (g := g) rfl 0 (.string (byt a)) rfl
    rwa [addr_jP] at h
  have hc1 : w1.cell? ⟨g, 1, none⟩ = some (.string (byt [])) := by
    have h := hrow.cells (g := g) rfl 1 (.string (byt [])) rfl
    rwa [addr_jP] at h
  replace HR := Lib.hid (HR.out.kept hb1)
  replace HB := Lib.hid (HB.out.trans (hb1.mono HB.out.size))
  have hz := HR.out.1.2
  clear hrow hb1
  go_wp2_with fail
  refine (HM.out _).mono ?_
  rintro e w2 ⟨rfl, hb2⟩
  have hc2 : ((w2.alloc (.cells #[.int .i64 t, .int .i64 p] 27)).alloc (.cells #[.int .i64 t, .int .i64 p, .slice none 0 0] 55)).cell? ⟨g, 1, none⟩ = some (.string (byt [])) := by
    have h0 := hb2.size
    rw [(below_alloc _ _).cell (p := ⟨g, 1, none⟩) (by simp; omega), (below_alloc _ _).cell (p := ⟨g, 1, none⟩) (by dsimp only; omega), hb2.cell (p := ⟨g, 1, none⟩) hg2]
    exact hc1
  replace HR := Lib.hid ((HR.out.kept hb2).kept2 ((Below.refl w2.heap.size w2).alloc (Nat.le_refl _) (.cells #[.int .i64 t, .int .i64 p] 27) |>.alloc (by simp) (.cells #[.int .i64 t, .int .i64 p, .slice none 0 0] 55)) (HR.out.kept hb2).1.2)
  have HB2 := Lib.hid (HB.out.trans (hb2.mono HB.out.size))
  replace HB := Lib.hid (HB2.out.trans (((Below.refl w2.heap.size w2).alloc (Nat.le_refl _) (.cells #[.int .i64 t, .int .i64 p] 27) |>.alloc (by simp) (.cells #[.int .i64 t, .int .i64 p, .slice none 0 0] 55)).mono HB2.out.size))
  have HP := Lib.hid (BzF.new (w2.alloc (.cells #[.int .i64 t, .int .i64 p] 27)) t p (.slice none 0 0) 55 rfl)
  have hz2 := hb2.size
  clear hb2 hc0 hc1
  have eP : (w2.alloc (.cells #[.int .i64 t, .int .i64 p] 27)).heap.size = w2.heap.size + 1 := by simp
  rw [eP] at HP
  have hRlt := HR.out.1.2
  have hPR : w2.heap.size + 1 ≠ w.heap.size := by have := HB2.out.size; omega
  have hPl := HP.out.1.2
  go_wp2_with fail
  generalize ((w2.alloc (.cells #[.int .i64 t, .int .i64 p] 27)).alloc (.cells #[.int .i64 t, .int .i64 p, .slice none 0 0] 55)) = wn at *
  obtain ⟨P, hP⟩ : ∃ P, w2.heap.size + 1 = P := ⟨_, rfl⟩
  rw [hP] at HP hPR hPl ⊢
  have HCN := Lib.hid (clsAt_nil wn wn.heap.size)
  have HXN := HP
  have HRN := HR
  have HBN := HB
  obtain ⟨B, hB⟩ : ∃ B, wn.heap.size = B := ⟨_, rfl⟩
  obtain ⟨u, hu⟩ : ∃ u, Value.slice none 0 0 = u := ⟨_, rfl⟩
  have hRB : w.heap.size < B := by omega
  rw [hB, ← hqs] at HCN
  rw [hu] at HCN HXN
  have hql : qs.length ≤ 1048576 := by rw [hqs]; simp
  clear HR HB HP hc2 HB2 HM HS hqs hu hP
  obtain ⟨a5, c5, rfl⟩ := own_formP HCN.out
  have HPZ := Lib.hid (cls_puz HCN.out t p)
  have HG := Lib.hid (fun W (hb : Below wn.heap.size wn W) => pzGood_any t p qs _ W hql (HPZ.out.isIn.kept hb))
  have HT := Lib.hid (fun W (hb : Below wn.heap.size wn W) (hg : pzB t p qs = true) => pzText_any t p qs _ W hg (HPZ.out.isIn.kept hb))
  have HX1 := Lib.hid (fun h hq => fl_yes (t := t) (p := p) (qs := qs) (l := l) h hq)
  have HX2 := Lib.hid (fun h hq => fl_no (t := t) (p := p) (qs := qs) (l := l) h hq)
  obtain ⟨k0, k1, k2, k3, k4, k5⟩ := HXN.out.cells
  generalize hpb : pzB t p qs = pb at *
  have HPB := Lib.hid hpb
  clear hpb
  refine wp_region_noPanic ?_
  refine wp_region_held_drew (S := fun W => W.heap[P]? = wn.heap[P]?) (by kernel_rfl) rfl (fun hHeld => ?_)
  refine wpAnyH_take (i := 0) (oi := { dst := some 72, op := Op.load 55 (Operand.tmp 7), type := 55, pos := "l9_puzzle.go:306", after := #[], guard := none }) (v := ?_) rfl (by kernel_rfl) (by kernel_rfl) (by kernel_rfl) np_putP (Or.inl ⟨by rfl, ?_⟩) (by assumption) ?_
  rotate_left
  · (intro wS hSw; have qq0 := (World.cell?_of_block (a := ⟨P, 0, none⟩) hSw).trans k0; have qq1 := (World.cell?_of_block (a := ⟨P, 1, none⟩) hSw).trans k1; have qq2 := (World.cell?_of_block (a := ⟨P, 2, none⟩) hSw).trans k2; go_simp; (try with_reducible rfl))
  (try simp only [Act.put, List.setIfInBounds_toArray, List.set_cons_zero, List.set_cons_succ])
  refine wpAnyH_take (i := 1) (oi := { dst := some 73, op := Op.load 55 (Operand.tmp 7), type := 55, pos := "l9_puzzle.go:306", after := #[], guard := none }) (v := ?_) rfl (by kernel_rfl) (by kernel_rfl) (by kernel_rfl) np_putP (Or.inl ⟨by rfl, ?_⟩) (by assumption) ?_
  rotate_left
  · (intro wS hSw; have qq0 := (World.cell?_of_block (a := ⟨P, 0, none⟩) hSw).trans k0; have qq1 := (World.cell?_of_block (a := ⟨P, 1, none⟩) hSw).trans k1; have qq2 := (World.cell?_of_block (a := ⟨P, 2, none⟩) hSw).trans k2; go_simp; (try with_reducible rfl))
  (try simp only [Act.put, List.setIfInBounds_toArray, List.set_cons_zero, List.set_cons_succ])
  refine wpAnyH_ready (rs := [2]) (by kernel_rfl) (by simp) ?_
  refine AllReadyH.cons (o := { dst := some 74, op := Op.call { callee := Callee.value (Operand.func 57), args := #[Operand.tmp 73], argTypes := #[55] }, type := 4, pos := "l9_puzzle.go:306", after := #[{ on := 1, ground := Ground.data }], guard := none }) rfl (fun K hK => ?_) AllReadyH.nil
  go_simp
  (go_at_call 57; refine (HG.out _ (Below.refl _ _).drew).mono ?_; rintro e w6 ⟨rfl, hb6⟩)
  have HB6 := Lib.hid ((Below.refl _ wn).drew.trans hb6)
  clear hb6
  refine hK.out _ _ (HB6.out.block P hPl) (fun hHeld2 => ?_)
  clear hK K
  (try simp only [Act.put, List.setIfInBounds_toArray, List.set_cons_zero, List.set_cons_succ])
  refine wpAnyH_take (i := 3) (oi := { dst := some 75, op := Op.move (Operand.tmp 74), type := 4, pos := "l9_puzzle.go:306", after := #[{ on := 2, ground := Ground.data }, { on := 2, ground := Ground.chain }], guard := none }) (v := ?_) rfl (by kernel_rfl) (by kernel_rfl) (by kernel_rfl) np_putP (Or.inl ⟨by rfl, ?_⟩) (by assumption) ?_
  rotate_left
  · (intro wS hSw; go_simp; (try with_reducible rfl))
  (try simp only [Act.put, List.setIfInBounds_toArray, List.set_cons_zero, List.set_cons_succ])
  cases pb
  · have HR6 := Lib.hid (HRN.out.kept HB6.out)
    obtain ⟨r0, r1, r2, f0, f1, f2⟩ := HR6.out.cells
    refine wpAnyH_take (i := 4) (oi := { dst := some 76, op := Op.load 55 (Operand.tmp 7), type := 55, pos := "l9_puzzle.go:306", after := #[{ on := 3, ground := Ground.guard }], guard := some (3, true) }) (v := undef) rfl (by kernel_rfl) (by kernel_rfl) (by kernel_rfl) np_putP (Or.inr ⟨by rfl, rfl⟩) (by assumption) ?_
    (try simp only [Act.put, List.setIfInBounds_toArray, List.set_cons_zero, List.set_cons_succ])
    refine wpAnyH_take (i := 5) (oi := { dst := some 77, op := Op.call { callee := Callee.value (Operand.func 58), args := #[Operand.tmp 76], argTypes := #[55] }, type := 9, pos := "l9_puzzle.go:306", after := #[{ on := 4, ground := Ground.data }, { on := 3, ground := Ground.chain }, { on := 3, ground := Ground.guard }], guard := some (3, true) }) (v := undef) rfl (by kernel_rfl) (by kernel_rfl) (by kernel_rfl) np_putP (Or.inr ⟨by rfl, rfl⟩) (by assumption) ?_
    (try simp only [Act.put, List.setIfInBounds_toArray, List.set_cons_zero, List.set_cons_succ])
    refine wpAnyH_take (i := 6) (oi := { dst := some 78, op := Op.move (Operand.tmp 0), type := 9, pos := "l9_puzzle.go:306", after := #[{ on := 3, ground := Ground.guard }, { on := 9, ground := Ground.gcOnly Departure.lateStores }], guard := some (3, true) }) (v := undef) rfl (by kernel_rfl) (by kernel_rfl) (by kernel_rfl) np_putP (Or.inr ⟨by rfl, rfl⟩) (by assumption) ?_
    (try simp only [Act.put, List.setIfInBounds_toArray, List.set_cons_zero, List.set_cons_succ])
    refine wpAnyH_take (i := 7) (oi := { dst := some 79, op := Op.binOp BinOp.eql 9 (Operand.tmp 77) (Operand.tmp 78) 9, type := 4, pos := "l9_puzzle.go:306", after := #[{ on := 5, ground := Ground.data }, { on := 6, ground := Ground.data }, { on := 3, ground := Ground.guard }, { on := 9, ground := Ground.gcOnly Departure.lateStores }], guard := some (3, true) }) (v := undef) rfl (by kernel_rfl) (by kernel_rfl) (by kernel_rfl) np_putP (Or.inr ⟨by rfl, rfl⟩) (by assumption) ?_
    (try simp only [Act.put, List.setIfInBounds_toArray, List.set_cons_zero, List.set_cons_succ])
    refine wpAnyH_take (i := 8) (oi := { dst := some 80, op := Op.pick (Operand.tmp 75) (Operand.tmp 79) (Operand.const (Value.bool false)), type := 4, pos := "l9_puzzle.go:306", after := #[{ on := 3, ground := Ground.data }, { on := 7, ground := Ground.data }, { on := 9, ground := Ground.gcOnly Departure.lateStores }], guard := none }) (v := ?_) rfl (by kernel_rfl) (by kernel_rfl) (by kernel_rfl) np_putP (Or.inl ⟨by rfl, ?_⟩) (by assumption) ?_
    rotate_left
    · (intro wS hSw; go_simp; (try with_reducible rfl))
    (try simp only [Act.put, List.setIfInBounds_toArray, List.set_cons_zero, List.set_cons_succ])
    refine wpAnyH_ready (rs := [9]) (by kernel_rfl) (by simp) ?_
    refine AllReadyH.cons (o := { dst := none, op := Op.store 55 (Operand.tmp 2) (Operand.tmp 72), type := 0, pos := "l9_puzzle.go:306", after := #[{ on := 0, ground := Ground.data }, { on := 5, ground := Ground.chain }, { on := 0, ground := Ground.phase }, { on := 1, ground := Ground.textOnly Departure.lateStores }, { on := 2, ground := Ground.textOnly Departure.lateStoresUnsure }, { on := 3, ground := Ground.textOnly Departure.lateStores }, { on := 4, ground := Ground.textOnly Departure.lateStores }, { on := 5, ground := Ground.textOnly Departure.lateStoresUnsure }, { on := 6, ground := Ground.textOnly Departure.lateStores }, { on := 7, ground := Ground.textOnly Departure.lateStores }, { on := 8, ground := Ground.textOnly Departure.lateStores }], guard := none }) rfl (fun K hK => ?_) AllReadyH.nil
    go_simp
    refine hK.out _ _ ((put3_heap w6 w.heap.size t p (.slice a5 qs.length c5) hPR).trans (HB6.out.block P hPl)) (fun hHeld2 => ?_)
    clear hK K
    (try simp only [Act.put, List.setIfInBounds_toArray, List.set_cons_zero, List.set_cons_succ])
    refine wpAnyH_take (i := 10) (oi := { dst := some 3, op := Op.assign (Operand.tmp 80), type := 4, pos := "l9_puzzle.go:306", after := #[{ on := 8, ground := Ground.data }, { on := 9, ground := Ground.chain }, { on := 0, ground := Ground.phase }, { on := 1, ground := Ground.phase }, { on := 2, ground := Ground.phase }, { on := 3, ground := Ground.phase }, { on := 4, ground := Ground.phase }, { on := 5, ground := Ground.phase }, { on := 6, ground := Ground.phase }, { on := 7, ground := Ground.phase }, { on := 8, ground := Ground.phase }, { on := 9, ground := Ground.phase }], guard := none }) (v := ?_) rfl (by kernel_rfl) (by kernel_rfl) (by kernel_rfl) np_putP (Or.inl ⟨by rfl, ?_⟩) (by assumption) ?_
    rotate_left
    · (intro wS hSw; go_simp; (try with_reducible rfl))
    (try simp only [Act.put, List.setIfInBounds_toArray, List.set_cons_zero, List.set_cons_succ])
    refine wpAnyH_done (by kernel_rfl) ?_ _
    refine NoPanic.normal ?_
    go_wp2_with fail
    try rw [RetCl.ok HOK.out]
    try rw [HQS.out]
    (first | rw [fl_yes HPB.out hq, HPB.out] | rw [fl_no HPB.out hq, HPB.out] | rw [HPB.out] | skip)
    obtain ⟨g0, g1, g2⟩ := put3_cells HR6.out t p (.slice a5 qs.length c5)
    unfold put3 at g0 g1 g2
    refine bodyPost_ret (v := .tuple #[.agg #[.int .i64 t, .int .i64 p, .slice a5 qs.length c5], .bool false]) (by simp [results, Tryd.f66, go_sem, g0, g1, g2]) rfl ⟨_, ret_flag (by first | rfl | simp [pzX_yes HPB.out, hq] | simp), ((HPZ.out.kept HB6.out).of (w' := put3 w6 w.heap.size t p (.slice a5 qs.length c5)) (by simp [put3]) (fun g h1 h2 => put3_heap _ _ _ _ _ (Nat.ne_of_gt (Nat.lt_of_lt_of_le hRB h1)))).wide (Nat.le_of_lt hRB) (by simp; exact HB6.out.size) (Nat.le_refl _), ?_⟩
    exact put3_below (HBN.out.trans (HB6.out.mono HBN.out.size)) (Nat.le_refl _) _ _ _
  · refine wpAnyH_take (i := 4) (oi := { dst := some 76, op := Op.load 55 (Operand.tmp 7), type := 55, pos := "l9_puzzle.go:306", after := #[{ on := 3, ground := Ground.guard }], guard := some (3, true) }) (v := ?_) rfl (by kernel_rfl) (by kernel_rfl) (by kernel_rfl) np_putP (Or.inl ⟨by rfl, ?_⟩) (by assumption) ?_
    rotate_left
    · (intro wS hSw; have qq0 := (World.cell?_of_block (a := ⟨P, 0, none⟩) hSw).trans k0; have qq1 := (World.cell?_of_block (a := ⟨P, 1, none⟩) hSw).trans k1; have qq2 := (World.cell?_of_block (a := ⟨P, 2, none⟩) hSw).trans k2; go_simp; (try with_reducible rfl))
    (try simp only [Act.put, List.setIfInBounds_toArray, List.set_cons_zero, List.set_cons_succ])
    refine wpAnyH_take (i := 6) (oi := { dst := some 78, op := Op.move (Operand.tmp 0), type := 9, pos := "l9_puzzle.go:306", after := #[{ on := 3, ground := Ground.guard }, { on := 9, ground := Ground.gcOnly Departure.lateStores }], guard := some (3, true) }) (v := ?_) rfl (by kernel_rfl) (by kernel_rfl) (by kernel_rfl) np_putP (Or.inl ⟨by rfl, ?_⟩) (by assumption) ?_
    rotate_left
    · (intro wS hSw; go_simp; (try with_reducible rfl))
    (try simp only [Act.put, List.setIfInBounds_toArray, List.set_cons_zero, List.set_cons_succ])
    refine wpAnyH_ready (rs := [5]) (by kernel_rfl) (by simp) ?_
    refine AllReadyH.cons (o := { dst := some 77, op := Op.call { callee := Callee.value (Operand.func 58), args := #[Operand.tmp 76], argTypes := #[55] }, type := 9, pos := "l9_puzzle.go:306", after := #[{ on := 4, ground := Ground.data }, { on := 3, ground := Ground.chain }, { on := 3, ground := Ground.guard }], guard := some (3, true) }) rfl (fun K hK => ?_) AllReadyH.nil
    go_simp
    (go_at_call 58; refine (HT.out _ HB6.out rfl).mono ?_; rintro e w7 ⟨rfl, hb7⟩)
    have HB7 := Lib.hid (HB6.out.trans (hb7.mono HB6.out.size))
    clear hb7
    have HR6 := Lib.hid (HRN.out.kept HB7.out)
    obtain ⟨r0, r1, r2, f0, f1, f2⟩ := HR6.out.cells
    refine hK.out _ _ (HB7.out.block P hPl) (fun hHeld2 => ?_)
    clear hK K
    (try simp only [Act.put, List.setIfInBounds_toArray, List.set_cons_zero, List.set_cons_succ])
    by_cases hq : byt (pzT t p qs qs.length) = byt l
    · have hqq : ((byt (pzT t p qs qs.length)).toList == (byt l).toList) = true := by rw [hq]; simp
      refine wpAnyH_take (i := 7) (oi := { dst := some 79, op := Op.binOp BinOp.eql 9 (Operand.tmp 77) (Operand.tmp 78) 9, type := 4, pos := "l9_puzzle.go:306", after := #[{ on := 5, ground := Ground.data }, { on := 6, ground := Ground.data }, { on := 3, ground := Ground.guard }, { on := 9, ground := Ground.gcOnly Departure.lateStores }], guard := some (3, true) }) (v := ?_) rfl (by kernel_rfl) (by kernel_rfl) (by kernel_rfl) np_putP (Or.inl ⟨by rfl, ?_⟩) (by assumption) ?_
      rotate_left
      · (intro wS hSw; go_simp; (try with_reducible rfl))
      (try simp only [Act.put, List.setIfInBounds_toArray, List.set_cons_zero, List.set_cons_succ])
      refine wpAnyH_take (i := 8) (oi := { dst := some 80, op := Op.pick (Operand.tmp 75) (Operand.tmp 79) (Operand.const (Value.bool false)), type := 4, pos := "l9_puzzle.go:306", after := #[{ on := 3, ground := Ground.data }, { on := 7, ground := Ground.data }, { on := 9, ground := Ground.gcOnly Departure.lateStores }], guard := none }) (v := ?_) rfl (by kernel_rfl) (by kernel_rfl) (by kernel_rfl) np_putP (Or.inl ⟨by rfl, ?_⟩) (by assumption) ?_
      rotate_left
      · (intro wS hSw; go_simp; (try with_reducible rfl))
      (try simp only [Act.put, List.setIfInBounds_toArray, List.set_cons_zero, List.set_cons_succ])
      refine wpAnyH_ready (rs := [9]) (by kernel_rfl) (by simp) ?_
      refine AllReadyH.cons (o := { dst := none, op := Op.store 55 (Operand.tmp 2) (Operand.tmp 72), type := 0, pos := "l9_puzzle.go:306", after := #[{ on := 0, ground := Ground.data }, { on := 5, ground := Ground.chain }, { on := 0, ground := Ground.phase }, { on := 1, ground := Ground.textOnly Departure.lateStores }, { on := 2, ground := Ground.textOnly Departure.lateStoresUnsure }, { on := 3, ground := Ground.textOnly Departure.lateStores }, { on := 4, ground := Ground.textOnly Departure.lateStores }, { on := 5, ground := Ground.textOnly Departure.lateStoresUnsure }, { on := 6, ground := Ground.textOnly Departure.lateStores }, { on := 7, ground := Ground.textOnly Departure.lateStores }, { on := 8, ground := Ground.textOnly Departure.lateStores }], guard := none }) rfl (fun K hK => ?_) AllReadyH.nil
      go_simp
      refine hK.out _ _ ((put3_heap w7 w.heap.size t p (.slice a5 qs.length c5) hPR).trans (HB7.out.block P hPl)) (fun hHeld2 => ?_)
      clear hK K
      (try simp only [Act.put, List.setIfInBounds_toArray, List.set_cons_zero, List.set_cons_succ])
      refine wpAnyH_take (i := 10) (oi := { dst := some 3, op := Op.assign (Operand.tmp 80), type := 4, pos := "l9_puzzle.go:306", after := #[{ on := 8, ground := Ground.data }, { on := 9, ground := Ground.chain }, { on := 0, ground := Ground.phase }, { on := 1, ground := Ground.phase }, { on := 2, ground := Ground.phase }, { on := 3, ground := Ground.phase }, { on := 4, ground := Ground.phase }, { on := 5, ground := Ground.phase }, { on := 6, ground := Ground.phase }, { on := 7, ground := Ground.phase }, { on := 8, ground := Ground.phase }, { on := 9, ground := Ground.phase }], guard := none }) (v := ?_) rfl (by kernel_rfl) (by kernel_rfl) (by kernel_rfl) np_putP (Or.inl ⟨by rfl, ?_⟩) (by assumption) ?_
      rotate_left
      · (intro wS hSw; go_simp; (try with_reducible rfl))
      (try simp only [Act.put, List.setIfInBounds_toArray, List.set_cons_zero, List.set_cons_succ])
      refine wpAnyH_done (by kernel_rfl) ?_ _
      refine NoPanic.normal ?_
      go_wp2_with fail
      try rw [RetCl.ok HOK.out]
      try rw [HQS.out]
      (first | rw [fl_yes HPB.out hq, HPB.out] | rw [fl_no HPB.out hq, HPB.out] | rw [HPB.out] | skip)
      obtain ⟨g0, g1, g2⟩ := put3_cells HR6.out t p (.slice a5 qs.length c5)
      unfold put3 at g0 g1 g2
      refine bodyPost_ret (v := .tuple #[.agg #[.int .i64 t, .int .i64 p, .slice a5 qs.length c5], .bool true]) (by simp [results, Tryd.f66, go_sem, g0, g1, g2]) rfl ⟨_, ret_flag (by first | rfl | simp [pzX_yes HPB.out, hq] | simp), ((HPZ.out.kept HB7.out).of (w' := put3 w7 w.heap.size t p (.slice a5 qs.length c5)) (by simp [put3]) (fun g h1 h2 => put3_heap _ _ _ _ _ (Nat.ne_of_gt (Nat.lt_of_lt_of_le hRB h1)))).wide (Nat.le_of_lt hRB) (by simp; exact HB7.out.size) (Nat.le_refl _), ?_⟩
      exact put3_below (HBN.out.trans (HB7.out.mono HBN.out.size)) (Nat.le_refl _) _ _ _
    · have hqq : ((byt (pzT t p qs qs.length)).toList == (byt l).toList) = false := str_ne hq
      refine wpAnyH_take (i := 7) (oi := { dst := some 79, op := Op.binOp BinOp.eql 9 (Operand.tmp 77) (Operand.tmp 78) 9, type := 4, pos := "l9_puzzle.go:306", after := #[{ on := 5, ground := Ground.data }, { on := 6, ground := Ground.data }, { on := 3, ground := Ground.guard }, { on := 9, ground := Ground.gcOnly Departure.lateStores }], guard := some (3, true) }) (v := ?_) rfl (by kernel_rfl) (by kernel_rfl) (by kernel_rfl) np_putP (Or.inl ⟨by rfl, ?_⟩) (by assumption) ?_
      rotate_left
      · (intro wS hSw; go_simp; (try with_reducible rfl))
      (try simp only [Act.put, List.setIfInBounds_toArray, List.set_cons_zero, List.set_cons_succ])
      refine wpAnyH_take (i := 8) (oi := { dst := some 80, op := Op.pick (Operand.tmp 75) (Operand.tmp 79) (Operand.const (Value.bool false)), type := 4, pos := "l9_puzzle.go:306", after := #[{ on := 3, ground := Ground.data }, { on := 7, ground := Ground.data }, { on := 9, ground := Ground.gcOnly Departure.lateStores }], guard := none }) (v := ?_) rfl (by kernel_rfl) (by kernel_rfl) (by kernel_rfl) np_putP (Or.inl ⟨by rfl, ?_⟩) (by assumption) ?_
      rotate_left
      · (intro wS hSw; go_simp; (try with_reducible rfl))
      (try simp only [Act.put, List.setIfInBounds_toArray, List.set_cons_zero, List.set_cons_succ])
      refine wpAnyH_ready (rs := [9]) (by kernel_rfl) (by simp) ?_
      refine AllReadyH.cons (o := { dst := none, op := Op.store 55 (Operand.tmp 2) (Operand.tmp 72), type := 0, pos := "l9_puzzle.go:306", after := #[{ on := 0, ground := Ground.data }, { on := 5, ground := Ground.chain }, { on := 0, ground := Ground.phase }, { on := 1, ground := Ground.textOnly Departure.lateStores }, { on := 2, ground := Ground.textOnly Departure.lateStoresUnsure }, { on := 3, ground := Ground.textOnly Departure.lateStores }, { on := 4, ground := Ground.textOnly Departure.lateStores }, { on := 5, ground := Ground.textOnly Departure.lateStoresUnsure }, { on := 6, ground := Ground.textOnly Departure.lateStores }, { on := 7, ground := Ground.textOnly Departure.lateStores }, { on := 8, ground := Ground.textOnly Departure.lateStores }], guard := none }) rfl (fun K hK => ?_) AllReadyH.nil
      go_simp
      refine hK.out _ _ ((put3_heap w7 w.heap.size t p (.slice a5 qs.length c5) hPR).trans (HB7.out.block P hPl)) (fun hHeld2 => ?_)
      clear hK K
      (try simp only [Act.put, List.setIfInBounds_toArray, List.set_cons_zero, List.set_cons_succ])
      refine wpAnyH_take (i := 10) (oi := { dst := some 3, op := Op.assign (Operand.tmp 80), type := 4, pos := "l9_puzzle.go:306", after := #[{ on := 8, ground := Ground.data }, { on := 9, ground := Ground.chain }, { on := 0, ground := Ground.phase }, { on := 1, ground := Ground.phase }, { on := 2, ground := Ground.phase }, { on := 3, ground := Ground.phase }, { on := 4, ground := Ground.phase }, { on := 5, ground := Ground.phase }, { on := 6, ground := Ground.phase }, { on := 7, ground := Ground.phase }, { on := 8, ground := Ground.phase }, { on := 9, ground := Ground.phase }], guard := none }) (v := ?_) rfl (by kernel_rfl) (by kernel_rfl) (by kernel_rfl) np_putP (Or.inl ⟨by rfl, ?_⟩) (by assumption) ?_
      rotate_left
      · (intro wS hSw; go_simp; (try with_reducible rfl))
      (try simp only [Act.put, List.setIfInBounds_toArray, List.set_cons_zero, List.set_cons_succ])
      refine wpAnyH_done (by kernel_rfl) ?_ _
      refine NoPanic.normal ?_
      go_wp2_with fail
      try rw [RetCl.ok HOK.out]
      try rw [HQS.out]
      (first | rw [fl_yes HPB.out hq, HPB.out] | rw [fl_no HPB.out hq, HPB.out] | rw [HPB.out] | skip)
      obtain ⟨g0, g1, g2⟩ := put3_cells HR6.out t p (.slice a5 qs.length c5)
      unfold put3 at g0 g1 g2
      refine bodyPost_ret (v := .tuple #[.agg #[.int .i64 t, .int .i64 p, .slice a5 qs.length c5], .bool false]) (by simp [results, Tryd.f66, go_sem, g0, g1, g2]) rfl ⟨_, ret_flag (by first | rfl | simp [pzX_yes HPB.out, hq] | simp), ((HPZ.out.kept HB7.out).of (w' := put3 w7 w.heap.size t p (.slice a5 qs.length c5)) (by simp [put3]) (fun g h1 h2 => put3_heap _ _ _ _ _ (Nat.ne_of_gt (Nat.lt_of_lt_of_le hRB h1)))).wide (Nat.le_of_lt hRB) (by simp; exact HB7.out.size) (Nat.le_refl _), ?_⟩
      exact put3_below (HBN.out.trans (HB7.out.mono HBN.out.size)) (Nat.le_refl _) _ _ _

set_option maxRecDepth 100000 in
set_option maxHeartbeats 4000000 in
theorem pzParse_some (l a b : List UInt8) (hbn : b ≠ []) (hl : (l.length : Int) ≤ 160) (hab : spl 58 l = [a, b]) (hm : (rdm (byt a)).1 ≠ 0) (w : World) :
    Calls Tryd.prog 66 #[.string (byt l)] w (RetCl (rdm (byt a)).1 (rdm (byt a)).2 l (spl 44 b) w) := by
  have hsz : (((byt l).size : Nat) : Int) = (l.length : Int) := by rw [dbl]
  have hsb : (((byt b).size : Nat) : Int) = (b.length : Int) := by rw [dbl]
  have hb0 : 0 < (b.length : Int) := by have := List.length_pos_iff.2 hbn; omega
  have hbl : b.length ≤ 160 := by have := spl_mem 58 l b (by rw [hab]; simp); omega
  have HSB := Lib.hid (fun W => l1Split_any b 44 (by omega) W)
  have HNE := Lib.hid (List.length_pos_iff.2 (spl_ne 44 b))
  have HPL := Lib.hid (spl_len 44 b)
  have HPM := Lib.hid (spl_mem 44 b)
  obtain ⟨i0, hi, hi0, hi1, hi2⟩ := info_parts infoClP
  have hl2 : ¬ 160 < (l.length : Int) := by omega
  have HS := Lib.hid (fun W => l1Split_any l 58 (by omega) W)
  have HM := Lib.hid (fun W => mpParse_any (byt a) W)
  rw [decide_eq_true hm] at HM
  have hg := rdm_good hm
  generalize (rdm (byt a)).1 = t at *
  generalize (rdm (byt a)).2 = p at *
  rw [hab] at HS
  have HR := Lib.hid (BzF.new w 0 0 (.slice none 0 0) 55 rfl)
  have HB := Lib.hid (below_alloc w (.cells #[.int .i64 0, .int .i64 0, .slice none 0 0] 55))
  clear hab hm
  go_enter Tryd.func66, Tryd.ntmps66
  go_wp2_with fail
  refine (HS.out _).mono ?_
  rintro e w1 ⟨v1, rfl, hrow, hb1⟩
  obtain ⟨g, cap, rfl, hg1, hg2⟩ := World.ownsRow.form hrow (by simp)
  have hc0 : w1.cell? ⟨g, 0, none⟩ = some (.string (byt a)) := by
    have h := hrow.cells (g := g) rfl 0 (.string (byt a)) rfl
    rwa [addr_jP] at h
  have hc1 : w1.cell? ⟨g, 1, none⟩ = some (.string (byt b)) := by
    have h := hrow.cells (g := g) rfl 1 (.string (byt b)) rfl
    rwa [addr_jP] at h
  replace HR := Lib.hid (HR.out.kept hb1)
  replace HB := Lib.hid (HB.out.trans (hb1.mono HB.out.size))
  have hz := HR.out.1.2
  clear hrow hb1
  go_wp2_with fail
  refine (HM.out _).mono ?_
  rintro e w2 ⟨rfl, hb2⟩
  have hc2 : ((w2.alloc (.cells #[.int .i64 t, .int .i64 p] 27)).alloc (.cells #[.int .i64 t, .int .i64 p, .slice none 0 0] 55)).cell? ⟨g, 1, none⟩ = some (.string (byt b)) := by
    have h0 := hb2.size
    rw [(below_alloc _ _).cell (p := ⟨g, 1, none⟩) (by simp; omega), (below_alloc _ _).cell (p := ⟨g, 1, none⟩) (by dsimp only; omega), hb2.cell (p := ⟨g, 1, none⟩) hg2]
    exact hc1
  replace HR := Lib.hid ((HR.out.kept hb2).kept2 ((Below.refl w2.heap.size w2).alloc (Nat.le_refl _) (.cells #[.int .i64 t, .int .i64 p] 27) |>.alloc (by simp) (.cells #[.int .i64 t, .int .i64 p, .slice none 0 0] 55)) (HR.out.kept hb2).1.2)
  have HB2 := Lib.hid (HB.out.trans (hb2.mono HB.out.size))
  replace HB := Lib.hid (HB2.out.trans (((Below.refl w2.heap.size w2).alloc (Nat.le_refl _) (.cells #[.int .i64 t, .int .i64 p] 27) |>.alloc (by simp) (.cells #[.int .i64 t, .int .i64 p, .slice none 0 0] 55)).mono HB2.out.size))
  have HP := Lib.hid (BzF.new (w2.alloc (.cells #[.int .i64 t, .int .i64 p] 27)) t p (.slice none 0 0) 55 rfl)
  have hz2 := hb2.size
  clear hb2 hc0 hc1
  have hP : w.heap.size < w2.heap.size := by have := HB2.out.size; omega
  go_wp2_with fail
  refine (HSB.out _).mono ?_
  rintro e w3 ⟨v3, rfl, hrow3, hb3⟩
  obtain ⟨g3, cap3, rfl, hg3, hg4'⟩ := World.ownsRow.form hrow3 HNE.out
  replace HR := Lib.hid (HR.out.kept hb3)
  replace HB := Lib.hid (HB.out.trans (hb3.mono HB.out.size))
  replace HP := Lib.hid (HP.out.kept hb3)
  have HC3 := Lib.hid (hrow3.cells (g := g3) rfl)
  have hz3 : w2.heap.size + 2 ≤ w3.heap.size := by have := hb3.size; simp at this; omega
  have hg3' : w2.heap.size + 2 ≤ g3 := by simp at hg3; omega
  have eP : (w2.alloc (.cells #[.int .i64 t, .int .i64 p] 27)).heap.size = w2.heap.size + 1 := by simp
  rw [eP] at HP
  clear hrow3 hb3 hg3 hc2
  generalize hps : spl 44 b = ps at *
  obtain ⟨B, hB⟩ : ∃ B, w3.heap.size = B := ⟨_, rfl⟩
  go_wp2_with fail
  go_loopw [43] (fun i wr => ∃ j : Nat, i = .int .i64 (j : Nat) ∧ j ≤ ps.length ∧ qcT (ps.take j) = true ∧ KpA B (w2.heap.size + 1) w3 wr ∧ ∃ u, BzF wr (w2.heap.size + 1) t p u ∧ ClsAt wr B u ((ps.take j).map qcC)) (fun i _ => ps.length - (RowKit.intOf i).toNat)
  case atStart => exact ⟨0, rfl, Nat.zero_le _, rfl, ⟨rfl, rfl, rfl, Nat.le_refl _, fun _ _ _ => rfl⟩, _, HP.out, clsAt_nil _ _⟩
  case round =>
    obtain ⟨j, rfl, hj, hT, hK, u, hbx, hcl⟩ := hrel
    have HK := Lib.hid hK
    have HX := Lib.hid hbx
    have HL := Lib.hid hcl
    have hwr := hK.size
    by_cases hlt : j < ps.length
    · have hlt2 : (j : Int) < (ps.length : Int) := by omega
      have hj0 : (0 : Int) ≤ (j : Int) := by omega
      obtain ⟨x, hx⟩ : ∃ x, ps[j]? = some x := ⟨_, List.getElem?_eq_getElem hlt⟩
      have hxl : x.length ≤ 160 := by have := HPM.out x (List.mem_of_getElem? hx); omega
      have hcell : wr.cell? ⟨g3, j, none⟩ = some (.string (byt x)) := by
        have h := HC3.out j _ (by rw [txV, List.getElem?_map, hx]; rfl)
        rw [World.cell?_of_block (w := w3) (w' := wr) (a := ⟨g3, j, none⟩) (hK.block g3 (by omega) (by omega))]
        rwa [addr_jP] at h
      have HS2 := Lib.hid (fun W => l1Split_any x 46 (by omega) W)
      have HPN := Lib.hid (List.length_pos_iff.2 (spl_ne 46 x))
      have hPM : ∀ q ∈ spl 46 x, q.length ≤ 160 := fun q hq => Nat.le_trans (spl_mem 46 x q hq) hxl
      have hpsl : ps.length ≤ 161 := by have := HPL.out; omega
      have HHX := Lib.hid hx
      clear hK hbx hcl hx
      go_wp2_with fail
      refine (HS2.out _).mono ?_
      rintro e w4 ⟨v4, rfl, hrow4, hb4⟩
      obtain ⟨g4, cap4, rfl, hg5, hg6⟩ := World.ownsRow.form hrow4 HPN.out
      have hz4 := hb4.size
      have HK4 : Hid (KpA B (w2.heap.size + 1) wr w4) := Lib.hid (KpA.of_below hb4 (by omega))
      have HBX := Lib.hid (HX.out.kept hb4)
      have HCL := Lib.hid (ownsRow_kept HL.out hb4)
      by_cases h3 : (spl 46 x).length = 3
      · obtain ⟨x0, x1, x2, hxx⟩ := three_ofP h3
        have c0 : w4.cell? ⟨g4, 0, none⟩ = some (.string (byt x0)) := by
          have h := hrow4.cells (g := g4) rfl 0 (.string (byt x0)) (by rw [hxx]; rfl)
          rwa [addr_jP] at h
        have c1 : w4.cell? ⟨g4, 1, none⟩ = some (.string (byt x1)) := by
          have h := hrow4.cells (g := g4) rfl 1 (.string (byt x1)) (by rw [hxx]; rfl)
          rwa [addr_jP] at h
        have c2 : w4.cell? ⟨g4, 2, none⟩ = some (.string (byt x2)) := by
          have h := hrow4.cells (g := g4) rfl 2 (.string (byt x2)) (by rw [hxx]; rfl)
          rwa [addr_jP] at h
        have hl0 : x0.length ≤ 160 := hPM x0 (by rw [hxx]; simp)
        have hl1 : x1.length ≤ 160 := hPM x1 (by rw [hxx]; simp)
        have hl2 : x2.length ≤ 160 := hPM x2 (by rw [hxx]; simp)
        have HR0 := Lib.hid (fun W => l1Read_any x0 (by omega) W)
        have HR1 := Lib.hid (fun W => l1Read_any x1 (by omega) W)
        have HR2 := Lib.hid (fun W => pzNumber_any x2 (by omega) W)
        have HQX : Hid ((ps.take (j + 1)).map qcC = (ps.take j).map qcC ++ [(rdL x0, rdL x1, pnL x2)]) := Lib.hid (by
          rw [List.take_add_one, HHX.out, Option.toList_some, List.map_append, List.map_singleton, qcC, hxx]; rfl)
        have HTY : Hid (qcT (ps.take (j + 1)) = true) := Lib.hid (by
          rw [List.take_add_one, HHX.out, Option.toList_some, qcT, List.all_append]
          rw [qcT] at hT
          rw [hT]
          simp [h3])
        have hgn : u.ownBlock ≠ some g4 := fun e => by have := (World.ownsRow.lt HL.out g4 e).2; omega
        have hgP : g4 ≠ w2.heap.size + 1 := by omega
        have hPB : w2.heap.size + 1 < B := by omega
        have hBw : B ≤ w4.heap.size := by omega
        generalize (spl 46 x).length = n2 at *
        subst h3
        clear hrow4 hb4 hPM hT hxx HHX hps
        have HML0 : Hid (((ps.take j).map qcC).length ≤ 161) := Lib.hid (by simp; omega)
        generalize (ps.take j).map qcC = qs at *
        generalize rdL x0 = q0 at *
        generalize rdL x1 = q1 at *
        generalize pnL x2 = q2 at *
        have HML : Hid (qs.length + 1 ≤ maxLen) := Lib.hid (by have := HML0.out; unfold maxLen; omega)
        have HML2 := HML0
        have HAL : Hid ((w4.drew.alloc (.cells #[.int .i64 q0, .int .i64 q1, .int .i64 q2] 93)).heap[g4]? = w4.heap[g4]?) := Lib.hid ((below_alloc w4.drew _).block g4 (by simpa using hg6))
        go_wp2_with fail
        obtain ⟨k0, k1, k2, k3, k4, k5⟩ := HBX.out.cells
        have m2 := (HBX.out.kept (below_alloc w4 (.cells #[.int .i64 q0, .int .i64 q1, .int .i64 q2] 93))).cells.2.2.1
        refine wp_region_noPanic ?_
        refine wp_region_held_drew (S := fun W => W.heap[g4]? = w4.heap[g4]?) (by kernel_rfl) rfl (fun hHeld => ?_)
        refine wpAnyH_take (i := 0) (oi := { dst := some 53, op := Op.fieldAddr 55 (Operand.tmp 7) 1, type := 0, pos := "l9_puzzle.go:303", after := #[], guard := none }) (v := ?_) rfl (by kernel_rfl) (by kernel_rfl) (by kernel_rfl) np_putP (Or.inl ⟨by rfl, ?_⟩) (by assumption) ?_
        rotate_left
        · (intro wS hSw; go_simp; (try with_reducible rfl))
        (try simp only [Act.put, List.setIfInBounds_toArray, List.set_cons_zero, List.set_cons_succ])
        refine wpAnyH_take (i := 2) (oi := { dst := some 55, op := Op.move (Operand.tmp 10), type := 91, pos := "l9_puzzle.go:303", after := #[], guard := none }) (v := ?_) rfl (by kernel_rfl) (by kernel_rfl) (by kernel_rfl) np_putP (Or.inl ⟨by rfl, ?_⟩) (by assumption) ?_
        rotate_left
        · (intro wS hSw; go_simp; (try with_reducible rfl))
        (try simp only [Act.put, List.setIfInBounds_toArray, List.set_cons_zero, List.set_cons_succ])
        refine wpAnyH_take (i := 3) (oi := { dst := some 56, op := Op.indexAddr 91 (Operand.tmp 55) (Operand.const (Value.int IntKind.i64 0)), type := 0, pos := "l9_puzzle.go:303", after := #[{ on := 2, ground := Ground.data }], guard := none }) (v := ?_) rfl (by kernel_rfl) (by kernel_rfl) (by kernel_rfl) np_putP (Or.inl ⟨by rfl, ?_⟩) (by assumption) ?_
        rotate_left
        · (intro wS hSw; go_simp; (try with_reducible rfl))
        (try simp only [Act.put, List.setIfInBounds_toArray, List.set_cons_zero, List.set_cons_succ])
        refine wpAnyH_take (i := 4) (oi := { dst := some 57, op := Op.load 9 (Operand.tmp 56), type := 9, pos := "l9_puzzle.go:303", after := #[{ on := 3, ground := Ground.data }], guard := none }) (v := ?_) rfl (by kernel_rfl) (by kernel_rfl) (by kernel_rfl) np_putP (Or.inl ⟨by rfl, ?_⟩) (by assumption) ?_
        rotate_left
        · (intro wS hSw; have qq0 := (World.cell?_of_block (a := ⟨g4, 0, none⟩) hSw).trans c0; go_simp; (try with_reducible rfl))
        (try simp only [Act.put, List.setIfInBounds_toArray, List.set_cons_zero, List.set_cons_succ])
        refine wpAnyH_take (i := 6) (oi := { dst := some 59, op := Op.move (Operand.tmp 10), type := 91, pos := "l9_puzzle.go:303", after := #[], guard := none }) (v := ?_) rfl (by kernel_rfl) (by kernel_rfl) (by kernel_rfl) np_putP (Or.inl ⟨by rfl, ?_⟩) (by assumption) ?_
        rotate_left
        · (intro wS hSw; go_simp; (try with_reducible rfl))
        (try simp only [Act.put, List.setIfInBounds_toArray, List.set_cons_zero, List.set_cons_succ])
        refine wpAnyH_take (i := 7) (oi := { dst := some 60, op := Op.indexAddr 91 (Operand.tmp 59) (Operand.const (Value.int IntKind.i64 1)), type := 0, pos := "l9_puzzle.go:303", after := #[{ on := 6, ground := Ground.data }], guard := none }) (v := ?_) rfl (by kernel_rfl) (by kernel_rfl) (by kernel_rfl) np_putP (Or.inl ⟨by rfl, ?_⟩) (by assumption) ?_
        rotate_left
        · (intro wS hSw; go_simp; (try with_reducible rfl))
        (try simp only [Act.put, List.setIfInBounds_toArray, List.set_cons_zero, List.set_cons_succ])
        refine wpAnyH_take (i := 8) (oi := { dst := some 61, op := Op.load 9 (Operand.tmp 60), type := 9, pos := "l9_puzzle.go:303", after := #[{ on := 7, ground := Ground.data }], guard := none }) (v := ?_) rfl (by kernel_rfl) (by kernel_rfl) (by kernel_rfl) np_putP (Or.inl ⟨by rfl, ?_⟩) (by assumption) ?_
        rotate_left
        · (intro wS hSw; have qq1 := (World.cell?_of_block (a := ⟨g4, 1, none⟩) hSw).trans c1; go_simp; (try with_reducible rfl))
        (try simp only [Act.put, List.setIfInBounds_toArray, List.set_cons_zero, List.set_cons_succ])
        refine wpAnyH_take (i := 10) (oi := { dst := some 63, op := Op.move (Operand.tmp 10), type := 91, pos := "l9_puzzle.go:303", after := #[], guard := none }) (v := ?_) rfl (by kernel_rfl) (by kernel_rfl) (by kernel_rfl) np_putP (Or.inl ⟨by rfl, ?_⟩) (by assumption) ?_
        rotate_left
        · (intro wS hSw; go_simp; (try with_reducible rfl))
        (try simp only [Act.put, List.setIfInBounds_toArray, List.set_cons_zero, List.set_cons_succ])
        refine wpAnyH_take (i := 11) (oi := { dst := some 64, op := Op.indexAddr 91 (Operand.tmp 63) (Operand.const (Value.int IntKind.i64 2)), type := 0, pos := "l9_puzzle.go:303", after := #[{ on := 10, ground := Ground.data }], guard := none }) (v := ?_) rfl (by kernel_rfl) (by kernel_rfl) (by kernel_rfl) np_putP (Or.inl ⟨by rfl, ?_⟩) (by assumption) ?_
        rotate_left
        · (intro wS hSw; go_simp; (try with_reducible rfl))
        (try simp only [Act.put, List.setIfInBounds_toArray, List.set_cons_zero, List.set_cons_succ])
        refine wpAnyH_take (i := 12) (oi := { dst := some 65, op := Op.load 9 (Operand.tmp 64), type := 9, pos := "l9_puzzle.go:303", after := #[{ on := 11, ground := Ground.data }], guard := none }) (v := ?_) rfl (by kernel_rfl) (by kernel_rfl) (by kernel_rfl) np_putP (Or.inl ⟨by rfl, ?_⟩) (by assumption) ?_
        rotate_left
        · (intro wS hSw; have qq2 := (World.cell?_of_block (a := ⟨g4, 2, none⟩) hSw).trans c2; go_simp; (try with_reducible rfl))
        (try simp only [Act.put, List.setIfInBounds_toArray, List.set_cons_zero, List.set_cons_succ])
        refine wpAnyH_ready (rs := [1, 5]) (by kernel_rfl) (by simp) ?_
        refine AllReadyH.cons (o := { dst := some 54, op := Op.load 53 (Operand.tmp 53), type := 53, pos := "l9_puzzle.go:303", after := #[{ on := 0, ground := Ground.data }], guard := none }) rfl (fun K hK => ?_) (AllReadyH.cons (o := { dst := some 58, op := Op.call { callee := Callee.value (Operand.func 81), args := #[Operand.tmp 57], argTypes := #[9] }, type := 3, pos := "l9_puzzle.go:303", after := #[{ on := 4, ground := Ground.data }], guard := none }) rfl (fun K hK => ?_) AllReadyH.nil)
        · go_simp
          refine hK.out _ _ (rfl) (fun hHeld2 => ?_)
          clear hK K
          (try simp only [Act.put, List.setIfInBounds_toArray, List.set_cons_zero, List.set_cons_succ])
          refine wpAnyH_ready (rs := [5]) (by kernel_rfl) (by simp) ?_
          refine AllReadyH.cons (o := { dst := some 58, op := Op.call { callee := Callee.value (Operand.func 81), args := #[Operand.tmp 57], argTypes := #[9] }, type := 3, pos := "l9_puzzle.go:303", after := #[{ on := 4, ground := Ground.data }], guard := none }) rfl (fun K hK => ?_) AllReadyH.nil
          go_simp
          (go_at_call 81; refine (HR0.out _).mono ?_; rintro e w7 ⟨rfl, rfl⟩)
          refine hK.out _ _ (rfl) (fun hHeld2 => ?_)
          clear hK K
          (try simp only [Act.put, List.setIfInBounds_toArray, List.set_cons_zero, List.set_cons_succ])
          refine wpAnyH_ready (rs := [9]) (by kernel_rfl) (by simp) ?_
          refine AllReadyH.cons (o := { dst := some 62, op := Op.call { callee := Callee.value (Operand.func 81), args := #[Operand.tmp 61], argTypes := #[9] }, type := 3, pos := "l9_puzzle.go:303", after := #[{ on := 8, ground := Ground.data }, { on := 5, ground := Ground.chain }], guard := none }) rfl (fun K hK => ?_) AllReadyH.nil
          go_simp
          (go_at_call 81; refine (HR1.out _).mono ?_; rintro e w7 ⟨rfl, rfl⟩)
          refine hK.out _ _ (rfl) (fun hHeld2 => ?_)
          clear hK K
          (try simp only [Act.put, List.setIfInBounds_toArray, List.set_cons_zero, List.set_cons_succ])
          refine wpAnyH_ready (rs := [13]) (by kernel_rfl) (by simp) ?_
          refine AllReadyH.cons (o := { dst := some 66, op := Op.call { callee := Callee.value (Operand.func 105), args := #[Operand.tmp 65], argTypes := #[9] }, type := 3, pos := "l9_puzzle.go:303", after := #[{ on := 12, ground := Ground.data }, { on := 9, ground := Ground.chain }], guard := none }) rfl (fun K hK => ?_) AllReadyH.nil
          go_simp
          (go_at_call 105; refine (HR2.out _).mono ?_; rintro e w7 ⟨rfl, rfl⟩)
          refine hK.out _ _ (rfl) (fun hHeld2 => ?_)
          clear hK K
          (try simp only [Act.put, List.setIfInBounds_toArray, List.set_cons_zero, List.set_cons_succ])
          refine wpAnyH_take (i := 14) (oi := { dst := some 67, op := Op.build 93 #[(0, Operand.tmp 58), (1, Operand.tmp 62), (2, Operand.tmp 66)], type := 93, pos := "l9_puzzle.go:303", after := #[{ on := 5, ground := Ground.data }, { on := 9, ground := Ground.data }, { on := 13, ground := Ground.data }], guard := none }) (v := ?_) rfl (by kernel_rfl) (by kernel_rfl) (by kernel_rfl) np_putP (Or.inl ⟨by rfl, ?_⟩) (by assumption) ?_
          rotate_left
          · (intro wS hSw; go_simp; (try with_reducible rfl))
          (try simp only [Act.put, List.setIfInBounds_toArray, List.set_cons_zero, List.set_cons_succ])
          refine wpAnyH_ready (rs := [15]) (by kernel_rfl) (by simp) ?_
          refine AllReadyH.cons (o := { dst := some 68, op := Op.buildSlice 53 1 #[(0, Operand.tmp 67)], type := 53, pos := "l9_puzzle.go:303", after := #[{ on := 14, ground := Ground.data }], guard := none }) rfl (fun K hK => ?_) AllReadyH.nil
          go_simp
          refine hK.out _ _ (HAL.out) (fun hHeld2 => ?_)
          clear hK K
          (try simp only [Act.put, List.setIfInBounds_toArray, List.set_cons_zero, List.set_cons_succ])
          refine wpAnyH_ready (rs := [16]) (by kernel_rfl) (by simp) ?_
          refine AllReadyH.cons (o := { dst := some 69, op := Op.call { callee := Callee.builtin Builtin.append, args := #[Operand.tmp 54, Operand.tmp 68], argTypes := #[53, 53] }, type := 53, pos := "l9_puzzle.go:303", after := #[{ on := 1, ground := Ground.data }, { on := 15, ground := Ground.data }, { on := 13, ground := Ground.chain }], guard := none }) rfl (fun K hK => ?_) AllReadyH.nil
          refine step_append_rd rfl (.tmp 54) (.tmp 68) 53 rfl B 93 i0 (.agg #[.int .i64 0, .int .i64 0, .int .i64 0]) 3 24 Tryd.underlying53 hi hi0 hi1 hi2 rfl (by decide) u _ _ (by simp [Act.eval]) (ownsRow_kept HCL.out ((Below.refl _ w4).drew.trans (below_alloc w4.drew (.cells #[.int .i64 q0, .int .i64 q1, .int .i64 q2] 93)))) ⟨w4.drew.heap.size, 0, none⟩ 1 1 [.int .i64 q0, .int .i64 q1, .int .i64 q2] (by simp [Act.eval]) rfl (fun j u hu => three_new _ _ _ _ _ rfl hu) (by simp [Value.oneCell']) HML.out (by have := HML2.out; omega) (by simp; omega) ?_
          intro v5 w5 hown5 hgrow5 hat5
          obtain ⟨p5, d5, rfl⟩ := own_formP hown5
          obtain ⟨CL5, BX5, KP5⟩ := leafC (q := (q0, q1, q2)) HCL.out HBX.out hPB hBw hown5 hgrow5
          have HG5 : w5.heap[g4]? = w4.heap[g4]? := (hgrow5.block g4 (by simp; omega) (fun e => hgn e.symm)).trans ((below_alloc w4.drew _).block g4 (by simpa using hg6))
          clear k0 k1 k2 k3 k4 k5 m2
          obtain ⟨k0, k1, k2, k3, k4, k5⟩ := BX5.cells
          refine hK.out _ _ (HG5) (fun hHeld2 => ?_)
          clear hK K
          (try simp only [Act.put, List.setIfInBounds_toArray, List.set_cons_zero, List.set_cons_succ])
          refine wpAnyH_take (i := 17) (oi := { dst := some 70, op := Op.fieldAddr 55 (Operand.tmp 7) 1, type := 0, pos := "l9_puzzle.go:303", after := #[{ on := 0, ground := Ground.phase }, { on := 1, ground := Ground.phase }, { on := 2, ground := Ground.phase }, { on := 3, ground := Ground.phase }, { on := 4, ground := Ground.phase }, { on := 5, ground := Ground.phase }, { on := 6, ground := Ground.phase }, { on := 7, ground := Ground.phase }, { on := 8, ground := Ground.phase }, { on := 9, ground := Ground.phase }, { on := 10, ground := Ground.phase }, { on := 11, ground := Ground.phase }, { on := 12, ground := Ground.phase }, { on := 13, ground := Ground.phase }, { on := 14, ground := Ground.phase }, { on := 15, ground := Ground.phase }, { on := 16, ground := Ground.phase }], guard := none }) (v := ?_) rfl (by kernel_rfl) (by kernel_rfl) (by kernel_rfl) np_putP (Or.inl ⟨by rfl, ?_⟩) (by assumption) ?_
          rotate_left
          · (intro wS hSw; go_simp; (try with_reducible rfl))
          (try simp only [Act.put, List.setIfInBounds_toArray, List.set_cons_zero, List.set_cons_succ])
          refine wpAnyH_ready (rs := [18]) (by kernel_rfl) (by simp) ?_
          refine AllReadyH.cons (o := { dst := none, op := Op.store 53 (Operand.tmp 70) (Operand.tmp 69), type := 0, pos := "l9_puzzle.go:303", after := #[{ on := 17, ground := Ground.data }, { on := 16, ground := Ground.data }, { on := 16, ground := Ground.chain }, { on := 0, ground := Ground.phase }, { on := 1, ground := Ground.phase }, { on := 2, ground := Ground.phase }, { on := 3, ground := Ground.phase }, { on := 4, ground := Ground.phase }, { on := 5, ground := Ground.phase }, { on := 6, ground := Ground.phase }, { on := 7, ground := Ground.phase }, { on := 8, ground := Ground.phase }, { on := 9, ground := Ground.phase }, { on := 10, ground := Ground.phase }, { on := 11, ground := Ground.phase }, { on := 12, ground := Ground.phase }, { on := 13, ground := Ground.phase }, { on := 14, ground := Ground.phase }, { on := 15, ground := Ground.phase }, { on := 16, ground := Ground.phase }], guard := none }) rfl (fun K hK => ?_) AllReadyH.nil
          go_simp
          refine hK.out _ _ ((Below.heap_setCell _ _ _ _ hgP).trans HG5) (fun hHeld2 => ?_)
          clear hK K
          (try simp only [Act.put, List.setIfInBounds_toArray, List.set_cons_zero, List.set_cons_succ])
          refine wpAnyH_done (by kernel_rfl) ?_ _
          refine NoPanic.normal ?_
          go_wp2_with fail
          refine ⟨⟨j + 1, by go_num, by omega, HTY.out, (HK.out.trans HK4.out).trans (KP5.set 2 _), _, BX5.put2 _, ?_⟩, by simp [RowKit.intOf]; omega⟩
          rw [HQX.out]
          exact CL5.set2 hPB 2 _
        · go_simp
          (go_at_call 81; refine (HR0.out _).mono ?_; rintro e w7 ⟨rfl, rfl⟩)
          refine hK.out _ _ (rfl) (fun hHeld2 => ?_)
          clear hK K
          (try simp only [Act.put, List.setIfInBounds_toArray, List.set_cons_zero, List.set_cons_succ])
          refine wpAnyH_ready (rs := [1, 9]) (by kernel_rfl) (by simp) ?_
          refine AllReadyH.cons (o := { dst := some 54, op := Op.load 53 (Operand.tmp 53), type := 53, pos := "l9_puzzle.go:303", after := #[{ on := 0, ground := Ground.data }], guard := none }) rfl (fun K hK => ?_) (AllReadyH.cons (o := { dst := some 62, op := Op.call { callee := Callee.value (Operand.func 81), args := #[Operand.tmp 61], argTypes := #[9] }, type := 3, pos := "l9_puzzle.go:303", after := #[{ on := 8, ground := Ground.data }, { on := 5, ground := Ground.chain }], guard := none }) rfl (fun K hK => ?_) AllReadyH.nil)
          · go_simp
            refine hK.out _ _ (rfl) (fun hHeld2 => ?_)
            clear hK K
            (try simp only [Act.put, List.setIfInBounds_toArray, List.set_cons_zero, List.set_cons_succ])
            refine wpAnyH_ready (rs := [9]) (by kernel_rfl) (by simp) ?_
            refine AllReadyH.cons (o := { dst := some 62, op := Op.call { callee := Callee.value (Operand.func 81), args := #[Operand.tmp 61], argTypes := #[9] }, type := 3, pos := "l9_puzzle.go:303", after := #[{ on := 8, ground := Ground.data }, { on := 5, ground := Ground.chain }], guard := none }) rfl (fun K hK => ?_) AllReadyH.nil
            go_simp
            (go_at_call 81; refine (HR1.out _).mono ?_; rintro e w7 ⟨rfl, rfl⟩)
            refine hK.out _ _ (rfl) (fun hHeld2 => ?_)
            clear hK K
            (try simp only [Act.put, List.setIfInBounds_toArray, List.set_cons_zero, List.set_cons_succ])
            refine wpAnyH_ready (rs := [13]) (by kernel_rfl) (by simp) ?_
            refine AllReadyH.cons (o := { dst := some 66, op := Op.call { callee := Callee.value (Operand.func 105), args := #[Operand.tmp 65], argTypes := #[9] }, type := 3, pos := "l9_puzzle.go:303", after := #[{ on := 12, ground := Ground.data }, { on := 9, ground := Ground.chain }], guard := none }) rfl (fun K hK => ?_) AllReadyH.nil
            go_simp
            (go_at_call 105; refine (HR2.out _).mono ?_; rintro e w7 ⟨rfl, rfl⟩)
            refine hK.out _ _ (rfl) (fun hHeld2 => ?_)
            clear hK K
            (try simp only [Act.put, List.setIfInBounds_toArray, List.set_cons_zero, List.set_cons_succ])
            refine wpAnyH_take (i := 14) (oi := { dst := some 67, op := Op.build 93 #[(0, Operand.tmp 58), (1, Operand.tmp 62), (2, Operand.tmp 66)], type := 93, pos := "l9_puzzle.go:303", after := #[{ on := 5, ground := Ground.data }, { on := 9, ground := Ground.data }, { on := 13, ground := Ground.data }], guard := none }) (v := ?_) rfl (by kernel_rfl) (by kernel_rfl) (by kernel_rfl) np_putP (Or.inl ⟨by rfl, ?_⟩) (by assumption) ?_
            rotate_left
            · (intro wS hSw; go_simp; (try with_reducible rfl))
            (try simp only [Act.put, List.setIfInBounds_toArray, List.set_cons_zero, List.set_cons_succ])
            refine wpAnyH_ready (rs := [15]) (by kernel_rfl) (by simp) ?_
            refine AllReadyH.cons (o := { dst := some 68, op := Op.buildSlice 53 1 #[(0, Operand.tmp 67)], type := 53, pos := "l9_puzzle.go:303", after := #[{ on := 14, ground := Ground.data }], guard := none }) rfl (fun K hK => ?_) AllReadyH.nil
            go_simp
            refine hK.out _ _ (HAL.out) (fun hHeld2 => ?_)
            clear hK K
            (try simp only [Act.put, List.setIfInBounds_toArray, List.set_cons_zero, List.set_cons_succ])
            refine wpAnyH_ready (rs := [16]) (by kernel_rfl) (by simp) ?_
            refine AllReadyH.cons (o := { dst := some 69, op := Op.call { callee := Callee.builtin Builtin.append, args := #[Operand.tmp 54, Operand.tmp 68], argTypes := #[53, 53] }, type := 53, pos := "l9_puzzle.go:303", after := #[{ on := 1, ground := Ground.data }, { on := 15, ground := Ground.data }, { on := 13, ground := Ground.chain }], guard := none }) rfl (fun K hK => ?_) AllReadyH.nil
            refine step_append_rd rfl (.tmp 54) (.tmp 68) 53 rfl B 93 i0 (.agg #[.int .i64 0, .int .i64 0, .int .i64 0]) 3 24 Tryd.underlying53 hi hi0 hi1 hi2 rfl (by decide) u _ _ (by simp [Act.eval]) (ownsRow_kept HCL.out ((Below.refl _ w4).drew.trans (below_alloc w4.drew (.cells #[.int .i64 q0, .int .i64 q1, .int .i64 q2] 93)))) ⟨w4.drew.heap.size, 0, none⟩ 1 1 [.int .i64 q0, .int .i64 q1, .int .i64 q2] (by simp [Act.eval]) rfl (fun j u hu => three_new _ _ _ _ _ rfl hu) (by simp [Value.oneCell']) HML.out (by have := HML2.out; omega) (by simp; omega) ?_
            intro v5 w5 hown5 hgrow5 hat5
            obtain ⟨p5, d5, rfl⟩ := own_formP hown5
            obtain ⟨CL5, BX5, KP5⟩ := leafC (q := (q0, q1, q2)) HCL.out HBX.out hPB hBw hown5 hgrow5
            have HG5 : w5.heap[g4]? = w4.heap[g4]? := (hgrow5.block g4 (by simp; omega) (fun e => hgn e.symm)).trans ((below_alloc w4.drew _).block g4 (by simpa using hg6))
            clear k0 k1 k2 k3 k4 k5 m2
            obtain ⟨k0, k1, k2, k3, k4, k5⟩ := BX5.cells
            refine hK.out _ _ (HG5) (fun hHeld2 => ?_)
            clear hK K
            (try simp only [Act.put, List.setIfInBounds_toArray, List.set_cons_zero, List.set_cons_succ])
            refine wpAnyH_take (i := 17) (oi := { dst := some 70, op := Op.fieldAddr 55 (Operand.tmp 7) 1, type := 0, pos := "l9_puzzle.go:303", after := #[{ on := 0, ground := Ground.phase }, { on := 1, ground := Ground.phase }, { on := 2, ground := Ground.phase }, { on := 3, ground := Ground.phase }, { on := 4, ground := Ground.phase }, { on := 5, ground := Ground.phase }, { on := 6, ground := Ground.phase }, { on := 7, ground := Ground.phase }, { on := 8, ground := Ground.phase }, { on := 9, ground := Ground.phase }, { on := 10, ground := Ground.phase }, { on := 11, ground := Ground.phase }, { on := 12, ground := Ground.phase }, { on := 13, ground := Ground.phase }, { on := 14, ground := Ground.phase }, { on := 15, ground := Ground.phase }, { on := 16, ground := Ground.phase }], guard := none }) (v := ?_) rfl (by kernel_rfl) (by kernel_rfl) (by kernel_rfl) np_putP (Or.inl ⟨by rfl, ?_⟩) (by assumption) ?_
            rotate_left
            · (intro wS hSw; go_simp; (try with_reducible rfl))
            (try simp only [Act.put, List.setIfInBounds_toArray, List.set_cons_zero, List.set_cons_succ])
            refine wpAnyH_ready (rs := [18]) (by kernel_rfl) (by simp) ?_
            refine AllReadyH.cons (o := { dst := none, op := Op.store 53 (Operand.tmp 70) (Operand.tmp 69), type := 0, pos := "l9_puzzle.go:303", after := #[{ on := 17, ground := Ground.data }, { on := 16, ground := Ground.data }, { on := 16, ground := Ground.chain }, { on := 0, ground := Ground.phase }, { on := 1, ground := Ground.phase }, { on := 2, ground := Ground.phase }, { on := 3, ground := Ground.phase }, { on := 4, ground := Ground.phase }, { on := 5, ground := Ground.phase }, { on := 6, ground := Ground.phase }, { on := 7, ground := Ground.phase }, { on := 8, ground := Ground.phase }, { on := 9, ground := Ground.phase }, { on := 10, ground := Ground.phase }, { on := 11, ground := Ground.phase }, { on := 12, ground := Ground.phase }, { on := 13, ground := Ground.phase }, { on := 14, ground := Ground.phase }, { on := 15, ground := Ground.phase }, { on := 16, ground := Ground.phase }], guard := none }) rfl (fun K hK => ?_) AllReadyH.nil
            go_simp
            refine hK.out _ _ ((Below.heap_setCell _ _ _ _ hgP).trans HG5) (fun hHeld2 => ?_)
            clear hK K
            (try simp only [Act.put, List.setIfInBounds_toArray, List.set_cons_zero, List.set_cons_succ])
            refine wpAnyH_done (by kernel_rfl) ?_ _
            refine NoPanic.normal ?_
            go_wp2_with fail
            refine ⟨⟨j + 1, by go_num, by omega, HTY.out, (HK.out.trans HK4.out).trans (KP5.set 2 _), _, BX5.put2 _, ?_⟩, by simp [RowKit.intOf]; omega⟩
            rw [HQX.out]
            exact CL5.set2 hPB 2 _
          · go_simp
            (go_at_call 81; refine (HR1.out _).mono ?_; rintro e w7 ⟨rfl, rfl⟩)
            refine hK.out _ _ (rfl) (fun hHeld2 => ?_)
            clear hK K
            (try simp only [Act.put, List.setIfInBounds_toArray, List.set_cons_zero, List.set_cons_succ])
            refine wpAnyH_ready (rs := [1, 13]) (by kernel_rfl) (by simp) ?_
            refine AllReadyH.cons (o := { dst := some 54, op := Op.load 53 (Operand.tmp 53), type := 53, pos := "l9_puzzle.go:303", after := #[{ on := 0, ground := Ground.data }], guard := none }) rfl (fun K hK => ?_) (AllReadyH.cons (o := { dst := some 66, op := Op.call { callee := Callee.value (Operand.func 105), args := #[Operand.tmp 65], argTypes := #[9] }, type := 3, pos := "l9_puzzle.go:303", after := #[{ on := 12, ground := Ground.data }, { on := 9, ground := Ground.chain }], guard := none }) rfl (fun K hK => ?_) AllReadyH.nil)
            · go_simp
              refine hK.out _ _ (rfl) (fun hHeld2 => ?_)
              clear hK K
              (try simp only [Act.put, List.setIfInBounds_toArray, List.set_cons_zero, List.set_cons_succ])
              refine wpAnyH_ready (rs := [13]) (by kernel_rfl) (by simp) ?_
              refine AllReadyH.cons (o := { dst := some 66, op := Op.call { callee := Callee.value (Operand.func 105), args := #[Operand.tmp 65], argTypes := #[9] }, type := 3, pos := "l9_puzzle.go:303", after := #[{ on := 12, ground := Ground.data }, { on := 9, ground := Ground.chain }], guard := none }) rfl (fun K hK => ?_) AllReadyH.nil
              go_simp
              (go_at_call 105; refine (HR2.out _).mono ?_; rintro e w7 ⟨rfl, rfl⟩)
              refine hK.out _ _ (rfl) (fun hHeld2 => ?_)
              clear hK K
              (try simp only [Act.put, List.setIfInBounds_toArray, List.set_cons_zero, List.set_cons_succ])
              refine wpAnyH_take (i := 14) (oi := { dst := some 67, op := Op.build 93 #[(0, Operand.tmp 58), (1, Operand.tmp 62), (2, Operand.tmp 66)], type := 93, pos := "l9_puzzle.go:303", after := #[{ on := 5, ground := Ground.data }, { on := 9, ground := Ground.data }, { on := 13, ground := Ground.data }], guard := none }) (v := ?_) rfl (by kernel_rfl) (by kernel_rfl) (by kernel_rfl) np_putP (Or.inl ⟨by rfl, ?_⟩) (by assumption) ?_
              rotate_left
              · (intro wS hSw; go_simp; (try with_reducible rfl))
              (try simp only [Act.put, List.setIfInBounds_toArray, List.set_cons_zero, List.set_cons_succ])
              refine wpAnyH_ready (rs := [15]) (by kernel_rfl) (by simp) ?_
              refine AllReadyH.cons (o := { dst := some 68, op := Op.buildSlice 53 1 #[(0, Operand.tmp 67)], type := 53, pos := "l9_puzzle.go:303", after := #[{ on := 14, ground := Ground.data }], guard := none }) rfl (fun K hK => ?_) AllReadyH.nil
              go_simp
              refine hK.out _ _ (HAL.out) (fun hHeld2 => ?_)
              clear hK K
              (try simp only [Act.put, List.setIfInBounds_toArray, List.set_cons_zero, List.set_cons_succ])
              refine wpAnyH_ready (rs := [16]) (by kernel_rfl) (by simp) ?_
              refine AllReadyH.cons (o := { dst := some 69, op := Op.call { callee := Callee.builtin Builtin.append, args := #[Operand.tmp 54, Operand.tmp 68], argTypes := #[53, 53] }, type := 53, pos := "l9_puzzle.go:303", after := #[{ on := 1, ground := Ground.data }, { on := 15, ground := Ground.data }, { on := 13, ground := Ground.chain }], guard := none }) rfl (fun K hK => ?_) AllReadyH.nil
              refine step_append_rd rfl (.tmp 54) (.tmp 68) 53 rfl B 93 i0 (.agg #[.int .i64 0, .int .i64 0, .int .i64 0]) 3 24 Tryd.underlying53 hi hi0 hi1 hi2 rfl (by decide) u _ _ (by simp [Act.eval]) (ownsRow_kept HCL.out ((Below.refl _ w4).drew.trans (below_alloc w4.drew (.cells #[.int .i64 q0, .int .i64 q1, .int .i64 q2] 93)))) ⟨w4.drew.heap.size, 0, none⟩ 1 1 [.int .i64 q0, .int .i64 q1, .int .i64 q2] (by simp [Act.eval]) rfl (fun j u hu => three_new _ _ _ _ _ rfl hu) (by simp [Value.oneCell']) HML.out (by have := HML2.out; omega) (by simp; omega) ?_
              intro v5 w5 hown5 hgrow5 hat5
              obtain ⟨p5, d5, rfl⟩ := own_formP hown5
              obtain ⟨CL5, BX5, KP5⟩ := leafC (q := (q0, q1, q2)) HCL.out HBX.out hPB hBw hown5 hgrow5
              have HG5 : w5.heap[g4]? = w4.heap[g4]? := (hgrow5.block g4 (by simp; omega) (fun e => hgn e.symm)).trans ((below_alloc w4.drew _).block g4 (by simpa using hg6))
              clear k0 k1 k2 k3 k4 k5 m2
              obtain ⟨k0, k1, k2, k3, k4, k5⟩ := BX5.cells
              refine hK.out _ _ (HG5) (fun hHeld2 => ?_)
              clear hK K
              (try simp only [Act.put, List.setIfInBounds_toArray, List.set_cons_zero, List.set_cons_succ])
              refine wpAnyH_take (i := 17) (oi := { dst := some 70, op := Op.fieldAddr 55 (Operand.tmp 7) 1, type := 0, pos := "l9_puzzle.go:303", after := #[{ on := 0, ground := Ground.phase }, { on := 1, ground := Ground.phase }, { on := 2, ground := Ground.phase }, { on := 3, ground := Ground.phase }, { on := 4, ground := Ground.phase }, { on := 5, ground := Ground.phase }, { on := 6, ground := Ground.phase }, { on := 7, ground := Ground.phase }, { on := 8, ground := Ground.phase }, { on := 9, ground := Ground.phase }, { on := 10, ground := Ground.phase }, { on := 11, ground := Ground.phase }, { on := 12, ground := Ground.phase }, { on := 13, ground := Ground.phase }, { on := 14, ground := Ground.phase }, { on := 15, ground := Ground.phase }, { on := 16, ground := Ground.phase }], guard := none }) (v := ?_) rfl (by kernel_rfl) (by kernel_rfl) (by kernel_rfl) np_putP (Or.inl ⟨by rfl, ?_⟩) (by assumption) ?_
              rotate_left
              · (intro wS hSw; go_simp; (try with_reducible rfl))
              (try simp only [Act.put, List.setIfInBounds_toArray, List.set_cons_zero, List.set_cons_succ])
              refine wpAnyH_ready (rs := [18]) (by kernel_rfl) (by simp) ?_
              refine AllReadyH.cons (o := { dst := none, op := Op.store 53 (Operand.tmp 70) (Operand.tmp 69), type := 0, pos := "l9_puzzle.go:303", after := #[{ on := 17, ground := Ground.data }, { on := 16, ground := Ground.data }, { on := 16, ground := Ground.chain }, { on := 0, ground := Ground.phase }, { on := 1, ground := Ground.phase }, { on := 2, ground := Ground.phase }, { on := 3, ground := Ground.phase }, { on := 4, ground := Ground.phase }, { on := 5, ground := Ground.phase }, { on := 6, ground := Ground.phase }, { on := 7, ground := Ground.phase }, { on := 8, ground := Ground.phase }, { on := 9, ground := Ground.phase }, { on := 10, ground := Ground.phase }, { on := 11, ground := Ground.phase }, { on := 12, ground := Ground.phase }, { on := 13, ground := Ground.phase }, { on := 14, ground := Ground.phase }, { on := 15, ground := Ground.phase }, { on := 16, ground := Ground.phase }], guard := none }) rfl (fun K hK => ?_) AllReadyH.nil
              go_simp
              refine hK.out _ _ ((Below.heap_setCell _ _ _ _ hgP).trans HG5) (fun hHeld2 => ?_)
              clear hK K
              (try simp only [Act.put, List.setIfInBounds_toArray, List.set_cons_zero, List.set_cons_succ])
              refine wpAnyH_done (by kernel_rfl) ?_ _
              refine NoPanic.normal ?_
              go_wp2_with fail
              refine ⟨⟨j + 1, by go_num, by omega, HTY.out, (HK.out.trans HK4.out).trans (KP5.set 2 _), _, BX5.put2 _, ?_⟩, by simp [RowKit.intOf]; omega⟩
              rw [HQX.out]
              exact CL5.set2 hPB 2 _
            · go_simp
              (go_at_call 105; refine (HR2.out _).mono ?_; rintro e w7 ⟨rfl, rfl⟩)
              refine hK.out _ _ (rfl) (fun hHeld2 => ?_)
              clear hK K
              (try simp only [Act.put, List.setIfInBounds_toArray, List.set_cons_zero, List.set_cons_succ])
              refine wpAnyH_take (i := 14) (oi := { dst := some 67, op := Op.build 93 #[(0, Operand.tmp 58), (1, Operand.tmp 62), (2, Operand.tmp 66)], type := 93, pos := "l9_puzzle.go:303", after := #[{ on := 5, ground := Ground.data }, { on := 9, ground := Ground.data }, { on := 13, ground := Ground.data }], guard := none }) (v := ?_) rfl (by kernel_rfl) (by kernel_rfl) (by kernel_rfl) np_putP (Or.inl ⟨by rfl, ?_⟩) (by assumption) ?_
              rotate_left
              · (intro wS hSw; go_simp; (try with_reducible rfl))
              (try simp only [Act.put, List.setIfInBounds_toArray, List.set_cons_zero, List.set_cons_succ])
              refine wpAnyH_ready (rs := [1, 15]) (by kernel_rfl) (by simp) ?_
              refine AllReadyH.cons (o := { dst := some 54, op := Op.load 53 (Operand.tmp 53), type := 53, pos := "l9_puzzle.go:303", after := #[{ on := 0, ground := Ground.data }], guard := none }) rfl (fun K hK => ?_) (AllReadyH.cons (o := { dst := some 68, op := Op.buildSlice 53 1 #[(0, Operand.tmp 67)], type := 53, pos := "l9_puzzle.go:303", after := #[{ on := 14, ground := Ground.data }], guard := none }) rfl (fun K hK => ?_) AllReadyH.nil)
              · go_simp
                refine hK.out _ _ (rfl) (fun hHeld2 => ?_)
                clear hK K
                (try simp only [Act.put, List.setIfInBounds_toArray, List.set_cons_zero, List.set_cons_succ])
                refine wpAnyH_ready (rs := [15]) (by kernel_rfl) (by simp) ?_
                refine AllReadyH.cons (o := { dst := some 68, op := Op.buildSlice 53 1 #[(0, Operand.tmp 67)], type := 53, pos := "l9_puzzle.go:303", after := #[{ on := 14, ground := Ground.data }], guard := none }) rfl (fun K hK => ?_) AllReadyH.nil
                go_simp
                refine hK.out _ _ (HAL.out) (fun hHeld2 => ?_)
                clear hK K
                (try simp only [Act.put, List.setIfInBounds_toArray, List.set_cons_zero, List.set_cons_succ])
                refine wpAnyH_ready (rs := [16]) (by kernel_rfl) (by simp) ?_
                refine AllReadyH.cons (o := { dst := some 69, op := Op.call { callee := Callee.builtin Builtin.append, args := #[Operand.tmp 54, Operand.tmp 68], argTypes := #[53, 53] }, type := 53, pos := "l9_puzzle.go:303", after := #[{ on := 1, ground := Ground.data }, { on := 15, ground := Ground.data }, { on := 13, ground := Ground.chain }], guard := none }) rfl (fun K hK => ?_) AllReadyH.nil
                refine step_append_rd rfl (.tmp 54) (.tmp 68) 53 rfl B 93 i0 (.agg #[.int .i64 0, .int .i64 0, .int .i64 0]) 3 24 Tryd.underlying53 hi hi0 hi1 hi2 rfl (by decide) u _ _ (by simp [Act.eval]) (ownsRow_kept HCL.out ((Below.refl _ w4).drew.trans (below_alloc w4.drew (.cells #[.int .i64 q0, .int .i64 q1, .int .i64 q2] 93)))) ⟨w4.drew.heap.size, 0, none⟩ 1 1 [.int .i64 q0, .int .i64 q1, .int .i64 q2] (by simp [Act.eval]) rfl (fun j u hu => three_new _ _ _ _ _ rfl hu) (by simp [Value.oneCell']) HML.out (by have := HML2.out; omega) (by simp; omega) ?_
                intro v5 w5 hown5 hgrow5 hat5
                obtain ⟨p5, d5, rfl⟩ := own_formP hown5
                obtain ⟨CL5, BX5, KP5⟩ := leafC (q := (q0, q1, q2)) HCL.out HBX.out hPB hBw hown5 hgrow5
                have HG5 : w5.heap[g4]? = w4.heap[g4]? := (hgrow5.block g4 (by simp; omega) (fun e => hgn e.symm)).trans ((below_alloc w4.drew _).block g4 (by simpa using hg6))
                clear k0 k1 k2 k3 k4 k5 m2
                obtain ⟨k0, k1, k2, k3, k4, k5⟩ := BX5.cells
                refine hK.out _ _ (HG5) (fun hHeld2 => ?_)
                clear hK K
                (try simp only [Act.put, List.setIfInBounds_toArray, List.set_cons_zero, List.set_cons_succ])
                refine wpAnyH_take (i := 17) (oi := { dst := some 70, op := Op.fieldAddr 55 (Operand.tmp 7) 1, type := 0, pos := "l9_puzzle.go:303", after := #[{ on := 0, ground := Ground.phase }, { on := 1, ground := Ground.phase }, { on := 2, ground := Ground.phase }, { on := 3, ground := Ground.phase }, { on := 4, ground := Ground.phase }, { on := 5, ground := Ground.phase }, { on := 6, ground := Ground.phase }, { on := 7, ground := Ground.phase }, { on := 8, ground := Ground.phase }, { on := 9, ground := Ground.phase }, { on := 10, ground := Ground.phase }, { on := 11, ground := Ground.phase }, { on := 12, ground := Ground.phase }, { on := 13, ground := Ground.phase }, { on := 14, ground := Ground.phase }, { on := 15, ground := Ground.phase }, { on := 16, ground := Ground.phase }], guard := none }) (v := ?_) rfl (by kernel_rfl) (by kernel_rfl) (by kernel_rfl) np_putP (Or.inl ⟨by rfl, ?_⟩) (by assumption) ?_
                rotate_left
                · (intro wS hSw; go_simp; (try with_reducible rfl))
                (try simp only [Act.put, List.setIfInBounds_toArray, List.set_cons_zero, List.set_cons_succ])
                refine wpAnyH_ready (rs := [18]) (by kernel_rfl) (by simp) ?_
                refine AllReadyH.cons (o := { dst := none, op := Op.store 53 (Operand.tmp 70) (Operand.tmp 69), type := 0, pos := "l9_puzzle.go:303", after := #[{ on := 17, ground := Ground.data }, { on := 16, ground := Ground.data }, { on := 16, ground := Ground.chain }, { on := 0, ground := Ground.phase }, { on := 1, ground := Ground.phase }, { on := 2, ground := Ground.phase }, { on := 3, ground := Ground.phase }, { on := 4, ground := Ground.phase }, { on := 5, ground := Ground.phase }, { on := 6, ground := Ground.phase }, { on := 7, ground := Ground.phase }, { on := 8, ground := Ground.phase }, { on := 9, ground := Ground.phase }, { on := 10, ground := Ground.phase }, { on := 11, ground := Ground.phase }, { on := 12, ground := Ground.phase }, { on := 13, ground := Ground.phase }, { on := 14, ground := Ground.phase }, { on := 15, ground := Ground.phase }, { on := 16, ground := Ground.phase }], guard := none }) rfl (fun K hK => ?_) AllReadyH.nil
                go_simp
                refine hK.out _ _ ((Below.heap_setCell _ _ _ _ hgP).trans HG5) (fun hHeld2 => ?_)
                clear hK K
                (try simp only [Act.put, List.setIfInBounds_toArray, List.set_cons_zero, List.set_cons_succ])
                refine wpAnyH_done (by kernel_rfl) ?_ _
                refine NoPanic.normal ?_
                go_wp2_with fail
                refine ⟨⟨j + 1, by go_num, by omega, HTY.out, (HK.out.trans HK4.out).trans (KP5.set 2 _), _, BX5.put2 _, ?_⟩, by simp [RowKit.intOf]; omega⟩
                rw [HQX.out]
                exact CL5.set2 hPB 2 _
              · go_simp
                refine hK.out _ _ (HAL.out) (fun hHeld2 => ?_)
                clear hK K
                (try simp only [Act.put, List.setIfInBounds_toArray, List.set_cons_zero, List.set_cons_succ])
                refine wpAnyH_ready (rs := [1]) (by kernel_rfl) (by simp) ?_
                refine AllReadyH.cons (o := { dst := some 54, op := Op.load 53 (Operand.tmp 53), type := 53, pos := "l9_puzzle.go:303", after := #[{ on := 0, ground := Ground.data }], guard := none }) rfl (fun K hK => ?_) AllReadyH.nil
                go_simp
                refine hK.out _ _ (HAL.out) (fun hHeld2 => ?_)
                clear hK K
                (try simp only [Act.put, List.setIfInBounds_toArray, List.set_cons_zero, List.set_cons_succ])
                refine wpAnyH_ready (rs := [16]) (by kernel_rfl) (by simp) ?_
                refine AllReadyH.cons (o := { dst := some 69, op := Op.call { callee := Callee.builtin Builtin.append, args := #[Operand.tmp 54, Operand.tmp 68], argTypes := #[53, 53] }, type := 53, pos := "l9_puzzle.go:303", after := #[{ on := 1, ground := Ground.data }, { on := 15, ground := Ground.data }, { on := 13, ground := Ground.chain }], guard := none }) rfl (fun K hK => ?_) AllReadyH.nil
                refine step_append_rd rfl (.tmp 54) (.tmp 68) 53 rfl B 93 i0 (.agg #[.int .i64 0, .int .i64 0, .int .i64 0]) 3 24 Tryd.underlying53 hi hi0 hi1 hi2 rfl (by decide) u _ _ (by simp [Act.eval]) (ownsRow_kept HCL.out ((Below.refl _ w4).drew.trans (below_alloc w4.drew (.cells #[.int .i64 q0, .int .i64 q1, .int .i64 q2] 93)))) ⟨w4.drew.heap.size, 0, none⟩ 1 1 [.int .i64 q0, .int .i64 q1, .int .i64 q2] (by simp [Act.eval]) rfl (fun j u hu => three_new _ _ _ _ _ rfl hu) (by simp [Value.oneCell']) HML.out (by have := HML2.out; omega) (by simp; omega) ?_
                intro v5 w5 hown5 hgrow5 hat5
                obtain ⟨p5, d5, rfl⟩ := own_formP hown5
                obtain ⟨CL5, BX5, KP5⟩ := leafC (q := (q0, q1, q2)) HCL.out HBX.out hPB hBw hown5 hgrow5
                have HG5 : w5.heap[g4]? = w4.heap[g4]? := (hgrow5.block g4 (by simp; omega) (fun e => hgn e.symm)).trans ((below_alloc w4.drew _).block g4 (by simpa using hg6))
                clear k0 k1 k2 k3 k4 k5 m2
                obtain ⟨k0, k1, k2, k3, k4, k5⟩ := BX5.cells
                refine hK.out _ _ (HG5) (fun hHeld2 => ?_)
                clear hK K
                (try simp only [Act.put, List.setIfInBounds_toArray, List.set_cons_zero, List.set_cons_succ])
                refine wpAnyH_take (i := 17) (oi := { dst := some 70, op := Op.fieldAddr 55 (Operand.tmp 7) 1, type := 0, pos := "l9_puzzle.go:303", after := #[{ on := 0, ground := Ground.phase }, { on := 1, ground := Ground.phase }, { on := 2, ground := Ground.phase }, { on := 3, ground := Ground.phase }, { on := 4, ground := Ground.phase }, { on := 5, ground := Ground.phase }, { on := 6, ground := Ground.phase }, { on := 7, ground := Ground.phase }, { on := 8, ground := Ground.phase }, { on := 9, ground := Ground.phase }, { on := 10, ground := Ground.phase }, { on := 11, ground := Ground.phase }, { on := 12, ground := Ground.phase }, { on := 13, ground := Ground.phase }, { on := 14, ground := Ground.phase }, { on := 15, ground := Ground.phase }, { on := 16, ground := Ground.phase }], guard := none }) (v := ?_) rfl (by kernel_rfl) (by kernel_rfl) (by kernel_rfl) np_putP (Or.inl ⟨by rfl, ?_⟩) (by assumption) ?_
                rotate_left
                · (intro wS hSw; go_simp; (try with_reducible rfl))
                (try simp only [Act.put, List.setIfInBounds_toArray, List.set_cons_zero, List.set_cons_succ])
                refine wpAnyH_ready (rs := [18]) (by kernel_rfl) (by simp) ?_
                refine AllReadyH.cons (o := { dst := none, op := Op.store 53 (Operand.tmp 70) (Operand.tmp 69), type := 0, pos := "l9_puzzle.go:303", after := #[{ on := 17, ground := Ground.data }, { on := 16, ground := Ground.data }, { on := 16, ground := Ground.chain }, { on := 0, ground := Ground.phase }, { on := 1, ground := Ground.phase }, { on := 2, ground := Ground.phase }, { on := 3, ground := Ground.phase }, { on := 4, ground := Ground.phase }, { on := 5, ground := Ground.phase }, { on := 6, ground := Ground.phase }, { on := 7, ground := Ground.phase }, { on := 8, ground := Ground.phase }, { on := 9, ground := Ground.phase }, { on := 10, ground := Ground.phase }, { on := 11, ground := Ground.phase }, { on := 12, ground := Ground.phase }, { on := 13, ground := Ground.phase }, { on := 14, ground := Ground.phase }, { on := 15, ground := Ground.phase }, { on := 16, ground := Ground.phase }], guard := none }) rfl (fun K hK => ?_) AllReadyH.nil
                go_simp
                refine hK.out _ _ ((Below.heap_setCell _ _ _ _ hgP).trans HG5) (fun hHeld2 => ?_)
                clear hK K
                (try simp only [Act.put, List.setIfInBounds_toArray, List.set_cons_zero, List.set_cons_succ])
                refine wpAnyH_done (by kernel_rfl) ?_ _
                refine NoPanic.normal ?_
                go_wp2_with fail
                refine ⟨⟨j + 1, by go_num, by omega, HTY.out, (HK.out.trans HK4.out).trans (KP5.set 2 _), _, BX5.put2 _, ?_⟩, by simp [RowKit.intOf]; omega⟩
                rw [HQX.out]
                exact CL5.set2 hPB 2 _
      · have hbad : qcT ps = false := by
          simp only [qcT, List.all_eq_false]
          exact ⟨x, List.mem_of_getElem? HHX.out, by simpa using h3⟩
        have HR4 : Hid (BzF w4 w.heap.size 0 0 (.slice none 0 0)) := Lib.hid ((bzF_of HR.out hwr (HK.out.block _ (by omega) (by omega))).kept hb4)
        have HB4 : Hid (Below w.heap.size w w4) := Lib.hid ((HB.out.trans (HK.out.below (n := w.heap.size) (by omega) (by omega))).trans (hb4.mono (by omega)))
        have hn3 : ¬ ((((spl 46 x).length : Nat) : Int) = 3) := by omega
        obtain ⟨r0, r1, r2, f0, f1, f2⟩ := HR4.out.cells
        have hzR := HR4.out.1.2
        clear hrow4 hb4 hPM hT HHX hps h3
        go_wp2_with fail
        rw [RetCl.bad hbad]
        obtain ⟨g0, g1, g2⟩ := put3_cells HR4.out 0 0 (.slice none 0 0)
        unfold put3 at g0 g1 g2
        refine bodyPost_ret (v := .tuple #[.agg #[.int .i64 0, .int .i64 0, (.slice none 0 0)], .bool false]) (by simp [results, Tryd.f66, go_sem, g0, g1, g2]) rfl ⟨_, rfl, puz_nil _ _, ?_⟩
        exact put3_below HB4.out (Nat.le_refl _) _ _ _
    · obtain rfl : j = ps.length := by omega
      have hjj : ¬ ((ps.length : Int) < (ps.length : Int)) := by omega
      rw [List.take_length] at hT hcl
      have HOK := Lib.hid hT
      have HCN := Lib.hid hcl
      have HXN := HX
      have HRN : Hid (BzF wr w.heap.size 0 0 (.slice none 0 0)) := Lib.hid (bzF_of HR.out hwr (HK.out.block _ (by omega) (by omega)))
      have HBN : Hid (Below w.heap.size w wr) := Lib.hid (HB.out.trans (HK.out.below (n := w.heap.size) (by omega) (by omega)))
      have hPR : w2.heap.size + 1 ≠ w.heap.size := by omega
      have hPl := HX.out.1.2
      have hRB : w.heap.size < B := by omega
      have hpsl : ps.length ≤ 161 := by have := HPL.out; omega
      have HQL : Hid ((ps.map qcC).length ≤ 1048576) := Lib.hid (by simp; omega)
      clear hK hbx hcl hT HX HL HK hlt hj hpsl HR HB HP
      go_wp2_with fail
      obtain ⟨P, hP⟩ : ∃ P, w2.heap.size + 1 = P := ⟨_, rfl⟩
      rw [hP] at HXN hPR hPl ⊢
      obtain ⟨qs, hqs⟩ : ∃ qs, ps.map qcC = qs := ⟨_, rfl⟩
      rw [hqs] at HCN HQL
      have HQS := Lib.hid hqs
      clear hP hqs hps
      obtain ⟨a5, c5, rfl⟩ := own_formP HCN.out
      have HPZ := Lib.hid (cls_puz HCN.out t p)
      have HG := Lib.hid (fun W (hb : Below wr.heap.size wr W) => pzGood_any t p qs _ W HQL.out (HPZ.out.isIn.kept hb))
      have HT := Lib.hid (fun W (hb : Below wr.heap.size wr W) (hg : pzB t p qs = true) => pzText_any t p qs _ W hg (HPZ.out.isIn.kept hb))
      have HX1 := Lib.hid (fun h hq => fl_yes (t := t) (p := p) (qs := qs) (l := l) h hq)
      have HX2 := Lib.hid (fun h hq => fl_no (t := t) (p := p) (qs := qs) (l := l) h hq)
      obtain ⟨k0, k1, k2, k3, k4, k5⟩ := HXN.out.cells
      generalize hpb : pzB t p qs = pb at *
      have HPB := Lib.hid hpb
      clear hpb
      refine wp_region_noPanic ?_
      refine wp_region_held_drew (S := fun W => W.heap[P]? = wr.heap[P]?) (by kernel_rfl) rfl (fun hHeld => ?_)
      refine wpAnyH_take (i := 0) (oi := { dst := some 72, op := Op.load 55 (Operand.tmp 7), type := 55, pos := "l9_puzzle.go:306", after := #[], guard := none }) (v := ?_) rfl (by kernel_rfl) (by kernel_rfl) (by kernel_rfl) np_putP (Or.inl ⟨by rfl, ?_⟩) (by assumption) ?_
      rotate_left
      · (intro wS hSw; have qq0 := (World.cell?_of_block (a := ⟨P, 0, none⟩) hSw).trans k0; have qq1 := (World.cell?_of_block (a := ⟨P, 1, none⟩) hSw).trans k1; have qq2 := (World.cell?_of_block (a := ⟨P, 2, none⟩) hSw).trans k2; go_simp; (try with_reducible rfl))
      (try simp only [Act.put, List.setIfInBounds_toArray, List.set_cons_zero, List.set_cons_succ])
      refine wpAnyH_take (i := 1) (oi := { dst := some 73, op := Op.load 55 (Operand.tmp 7), type := 55, pos := "l9_puzzle.go:306", after := #[], guard := none }) (v := ?_) rfl (by kernel_rfl) (by kernel_rfl) (by kernel_rfl) np_putP (Or.inl ⟨by rfl, ?_⟩) (by assumption) ?_
      rotate_left
      · (intro wS hSw; have qq0 := (World.cell?_of_block (a := ⟨P, 0, none⟩) hSw).trans k0; have qq1 := (World.cell?_of_block (a := ⟨P, 1, none⟩) hSw).trans k1; have qq2 := (World.cell?_of_block (a := ⟨P, 2, none⟩) hSw).trans k2; go_simp; (try with_reducible rfl))
      (try simp only [Act.put, List.setIfInBounds_toArray, List.set_cons_zero, List.set_cons_succ])
      refine wpAnyH_ready (rs := [2]) (by kernel_rfl) (by simp) ?_
      refine AllReadyH.cons (o := { dst := some 74, op := Op.call { callee := Callee.value (Operand.func 57), args := #[Operand.tmp 73], argTypes := #[55] }, type := 4, pos := "l9_puzzle.go:306", after := #[{ on := 1, ground := Ground.data }], guard := none }) rfl (fun K hK => ?_) AllReadyH.nil
      go_simp
      (go_at_call 57; refine (HG.out _ (Below.refl _ _).drew).mono ?_; rintro e w6 ⟨rfl, hb6⟩)
      have HB6 := Lib.hid ((Below.refl _ wr).drew.trans hb6)
      clear hb6
      refine hK.out _ _ (HB6.out.block P hPl) (fun hHeld2 => ?_)
      clear hK K
      (try simp only [Act.put, List.setIfInBounds_toArray, List.set_cons_zero, List.set_cons_succ])
      refine wpAnyH_take (i := 3) (oi := { dst := some 75, op := Op.move (Operand.tmp 74), type := 4, pos := "l9_puzzle.go:306", after := #[{ on := 2, ground := Ground.data }, { on := 2, ground := Ground.chain }], guard := none }) (v := ?_) rfl (by kernel_rfl) (by kernel_rfl) (by kernel_rfl) np_putP (Or.inl ⟨by rfl, ?_⟩) (by assumption) ?_
      rotate_left
      · (intro wS hSw; go_simp; (try with_reducible rfl))
      (try simp only [Act.put, List.setIfInBounds_toArray, List.set_cons_zero, List.set_cons_succ])
      cases pb
      · have HR6 := Lib.hid (HRN.out.kept HB6.out)
        obtain ⟨r0, r1, r2, f0, f1, f2⟩ := HR6.out.cells
        refine wpAnyH_take (i := 4) (oi := { dst := some 76, op := Op.load 55 (Operand.tmp 7), type := 55, pos := "l9_puzzle.go:306", after := #[{ on := 3, ground := Ground.guard }], guard := some (3, true) }) (v := undef) rfl (by kernel_rfl) (by kernel_rfl) (by kernel_rfl) np_putP (Or.inr ⟨by rfl, rfl⟩) (by assumption) ?_
        (try simp only [Act.put, List.setIfInBounds_toArray, List.set_cons_zero, List.set_cons_succ])
        refine wpAnyH_take (i := 5) (oi := { dst := some 77, op := Op.call { callee := Callee.value (Operand.func 58), args := #[Operand.tmp 76], argTypes := #[55] }, type := 9, pos := "l9_puzzle.go:306", after := #[{ on := 4, ground := Ground.data }, { on := 3, ground := Ground.chain }, { on := 3, ground := Ground.guard }], guard := some (3, true) }) (v := undef) rfl (by kernel_rfl) (by kernel_rfl) (by kernel_rfl) np_putP (Or.inr ⟨by rfl, rfl⟩) (by assumption) ?_
        (try simp only [Act.put, List.setIfInBounds_toArray, List.set_cons_zero, List.set_cons_succ])
        refine wpAnyH_take (i := 6) (oi := { dst := some 78, op := Op.move (Operand.tmp 0), type := 9, pos := "l9_puzzle.go:306", after := #[{ on := 3, ground := Ground.guard }, { on := 9, ground := Ground.gcOnly Departure.lateStores }], guard := some (3, true) }) (v := undef) rfl (by kernel_rfl) (by kernel_rfl) (by kernel_rfl) np_putP (Or.inr ⟨by rfl, rfl⟩) (by assumption) ?_
        (try simp only [Act.put, List.setIfInBounds_toArray, List.set_cons_zero, List.set_cons_succ])
        refine wpAnyH_take (i := 7) (oi := { dst := some 79, op := Op.binOp BinOp.eql 9 (Operand.tmp 77) (Operand.tmp 78) 9, type := 4, pos := "l9_puzzle.go:306", after := #[{ on := 5, ground := Ground.data }, { on := 6, ground := Ground.data }, { on := 3, ground := Ground.guard }, { on := 9, ground := Ground.gcOnly Departure.lateStores }], guard := some (3, true) }) (v := undef) rfl (by kernel_rfl) (by kernel_rfl) (by kernel_rfl) np_putP (Or.inr ⟨by rfl, rfl⟩) (by assumption) ?_
        (try simp only [Act.put, List.setIfInBounds_toArray, List.set_cons_zero, List.set_cons_succ])
        refine wpAnyH_take (i := 8) (oi := { dst := some 80, op := Op.pick (Operand.tmp 75) (Operand.tmp 79) (Operand.const (Value.bool false)), type := 4, pos := "l9_puzzle.go:306", after := #[{ on := 3, ground := Ground.data }, { on := 7, ground := Ground.data }, { on := 9, ground := Ground.gcOnly Departure.lateStores }], guard := none }) (v := ?_) rfl (by kernel_rfl) (by kernel_rfl) (by kernel_rfl) np_putP (Or.inl ⟨by rfl, ?_⟩) (by assumption) ?_
        rotate_left
        · (intro wS hSw; go_simp; (try with_reducible rfl))
        (try simp only [Act.put, List.setIfInBounds_toArray, List.set_cons_zero, List.set_cons_succ])
        refine wpAnyH_ready (rs := [9]) (by kernel_rfl) (by simp) ?_
        refine AllReadyH.cons (o := { dst := none, op := Op.store 55 (Operand.tmp 2) (Operand.tmp 72), type := 0, pos := "l9_puzzle.go:306", after := #[{ on := 0, ground := Ground.data }, { on := 5, ground := Ground.chain }, { on := 0, ground := Ground.phase }, { on := 1, ground := Ground.textOnly Departure.lateStores }, { on := 2, ground := Ground.textOnly Departure.lateStoresUnsure }, { on := 3, ground := Ground.textOnly Departure.lateStores }, { on := 4, ground := Ground.textOnly Departure.lateStores }, { on := 5, ground := Ground.textOnly Departure.lateStoresUnsure }, { on := 6, ground := Ground.textOnly Departure.lateStores }, { on := 7, ground := Ground.textOnly Departure.lateStores }, { on := 8, ground := Ground.textOnly Departure.lateStores }], guard := none }) rfl (fun K hK => ?_) AllReadyH.nil
        go_simp
        refine hK.out _ _ ((put3_heap w6 w.heap.size t p (.slice a5 qs.length c5) hPR).trans (HB6.out.block P hPl)) (fun hHeld2 => ?_)
        clear hK K
        (try simp only [Act.put, List.setIfInBounds_toArray, List.set_cons_zero, List.set_cons_succ])
        refine wpAnyH_take (i := 10) (oi := { dst := some 3, op := Op.assign (Operand.tmp 80), type := 4, pos := "l9_puzzle.go:306", after := #[{ on := 8, ground := Ground.data }, { on := 9, ground := Ground.chain }, { on := 0, ground := Ground.phase }, { on := 1, ground := Ground.phase }, { on := 2, ground := Ground.phase }, { on := 3, ground := Ground.phase }, { on := 4, ground := Ground.phase }, { on := 5, ground := Ground.phase }, { on := 6, ground := Ground.phase }, { on := 7, ground := Ground.phase }, { on := 8, ground := Ground.phase }, { on := 9, ground := Ground.phase }], guard := none }) (v := ?_) rfl (by kernel_rfl) (by kernel_rfl) (by kernel_rfl) np_putP (Or.inl ⟨by rfl, ?_⟩) (by assumption) ?_
        rotate_left
        · (intro wS hSw; go_simp; (try with_reducible rfl))
        (try simp only [Act.put, List.setIfInBounds_toArray, List.set_cons_zero, List.set_cons_succ])
        refine wpAnyH_done (by kernel_rfl) ?_ _
        refine NoPanic.normal ?_
        go_wp2_with fail
        try rw [RetCl.ok HOK.out]
        try rw [HQS.out]
        (first | rw [fl_yes HPB.out hq, HPB.out] | rw [fl_no HPB.out hq, HPB.out] | rw [HPB.out] | skip)
        obtain ⟨g0, g1, g2⟩ := put3_cells HR6.out t p (.slice a5 qs.length c5)
        unfold put3 at g0 g1 g2
        refine bodyPost_ret (v := .tuple #[.agg #[.int .i64 t, .int .i64 p, .slice a5 qs.length c5], .bool false]) (by simp [results, Tryd.f66, go_sem, g0, g1, g2]) rfl ⟨_, ret_flag (by first | rfl | simp [pzX_yes HPB.out, hq] | simp), ((HPZ.out.kept HB6.out).of (w' := put3 w6 w.heap.size t p (.slice a5 qs.length c5)) (by simp [put3]) (fun g h1 h2 => put3_heap _ _ _ _ _ (Nat.ne_of_gt (Nat.lt_of_lt_of_le hRB h1)))).wide (Nat.le_of_lt hRB) (by simp; exact HB6.out.size) (Nat.le_refl _), ?_⟩
        exact put3_below (HBN.out.trans (HB6.out.mono HBN.out.size)) (Nat.le_refl _) _ _ _
      · refine wpAnyH_take (i := 4) (oi := { dst := some 76, op := Op.load 55 (Operand.tmp 7), type := 55, pos := "l9_puzzle.go:306", after := #[{ on := 3, ground := Ground.guard }], guard := some (3, true) }) (v := ?_) rfl (by kernel_rfl) (by kernel_rfl) (by kernel_rfl) np_putP (Or.inl ⟨by rfl, ?_⟩) (by assumption) ?_
        rotate_left
        · (intro wS hSw; have qq0 := (World.cell?_of_block (a := ⟨P, 0, none⟩) hSw).trans k0; have qq1 := (World.cell?_of_block (a := ⟨P, 1, none⟩) hSw).trans k1; have qq2 := (World.cell?_of_block (a := ⟨P, 2, none⟩) hSw).trans k2; go_simp; (try with_reducible rfl))
        (try simp only [Act.put, List.setIfInBounds_toArray, List.set_cons_zero, List.set_cons_succ])
        refine wpAnyH_take (i := 6) (oi := { dst := some 78, op := Op.move (Operand.tmp 0), type := 9, pos := "l9_puzzle.go:306", after := #[{ on := 3, ground := Ground.guard }, { on := 9, ground := Ground.gcOnly Departure.lateStores }], guard := some (3, true) }) (v := ?_) rfl (by kernel_rfl) (by kernel_rfl) (by kernel_rfl) np_putP (Or.inl ⟨by rfl, ?_⟩) (by assumption) ?_
        rotate_left
        · (intro wS hSw; go_simp; (try with_reducible rfl))
        (try simp only [Act.put, List.setIfInBounds_toArray, List.set_cons_zero, List.set_cons_succ])
        refine wpAnyH_ready (rs := [5]) (by kernel_rfl) (by simp) ?_
        refine AllReadyH.cons (o := { dst := some 77, op := Op.call { callee := Callee.value (Operand.func 58), args := #[Operand.tmp 76], argTypes := #[55] }, type := 9, pos := "l9_puzzle.go:306", after := #[{ on := 4, ground := Ground.data }, { on := 3, ground := Ground.chain }, { on := 3, ground := Ground.guard }], guard := some (3, true) }) rfl (fun K hK => ?_) AllReadyH.nil
        go_simp
        (go_at_call 58; refine (HT.out _ HB6.out rfl).mono ?_; rintro e w7 ⟨rfl, hb7⟩)
        have HB7 := Lib.hid (HB6.out.trans (hb7.mono HB6.out.size))
        clear hb7
        have HR6 := Lib.hid (HRN.out.kept HB7.out)
        obtain ⟨r0, r1, r2, f0, f1, f2⟩ := HR6.out.cells
        refine hK.out _ _ (HB7.out.block P hPl) (fun hHeld2 => ?_)
        clear hK K
        (try simp only [Act.put, List.setIfInBounds_toArray, List.set_cons_zero, List.set_cons_succ])
        by_cases hq : byt (pzT t p qs qs.length) = byt l
        · have hqq : ((byt (pzT t p qs qs.length)).toList == (byt l).toList) = true := by rw [hq]; simp
          refine wpAnyH_take (i := 7) (oi := { dst := some 79, op := Op.binOp BinOp.eql 9 (Operand.tmp 77) (Operand.tmp 78) 9, type := 4, pos := "l9_puzzle.go:306", after := #[{ on := 5, ground := Ground.data }, { on := 6, ground := Ground.data }, { on := 3, ground := Ground.guard }, { on := 9, ground := Ground.gcOnly Departure.lateStores }], guard := some (3, true) }) (v := ?_) rfl (by kernel_rfl) (by kernel_rfl) (by kernel_rfl) np_putP (Or.inl ⟨by rfl, ?_⟩) (by assumption) ?_
          rotate_left
          · (intro wS hSw; go_simp; (try with_reducible rfl))
          (try simp only [Act.put, List.setIfInBounds_toArray, List.set_cons_zero, List.set_cons_succ])
          refine wpAnyH_take (i := 8) (oi := { dst := some 80, op := Op.pick (Operand.tmp 75) (Operand.tmp 79) (Operand.const (Value.bool false)), type := 4, pos := "l9_puzzle.go:306", after := #[{ on := 3, ground := Ground.data }, { on := 7, ground := Ground.data }, { on := 9, ground := Ground.gcOnly Departure.lateStores }], guard := none }) (v := ?_) rfl (by kernel_rfl) (by kernel_rfl) (by kernel_rfl) np_putP (Or.inl ⟨by rfl, ?_⟩) (by assumption) ?_
          rotate_left
          · (intro wS hSw; go_simp; (try with_reducible rfl))
          (try simp only [Act.put, List.setIfInBounds_toArray, List.set_cons_zero, List.set_cons_succ])
          refine wpAnyH_ready (rs := [9]) (by kernel_rfl) (by simp) ?_
          refine AllReadyH.cons (o := { dst := none, op := Op.store 55 (Operand.tmp 2) (Operand.tmp 72), type := 0, pos := "l9_puzzle.go:306", after := #[{ on := 0, ground := Ground.data }, { on := 5, ground := Ground.chain }, { on := 0, ground := Ground.phase }, { on := 1, ground := Ground.textOnly Departure.lateStores }, { on := 2, ground := Ground.textOnly Departure.lateStoresUnsure }, { on := 3, ground := Ground.textOnly Departure.lateStores }, { on := 4, ground := Ground.textOnly Departure.lateStores }, { on := 5, ground := Ground.textOnly Departure.lateStoresUnsure }, { on := 6, ground := Ground.textOnly Departure.lateStores }, { on := 7, ground := Ground.textOnly Departure.lateStores }, { on := 8, ground := Ground.textOnly Departure.lateStores }], guard := none }) rfl (fun K hK => ?_) AllReadyH.nil
          go_simp
          refine hK.out _ _ ((put3_heap w7 w.heap.size t p (.slice a5 qs.length c5) hPR).trans (HB7.out.block P hPl)) (fun hHeld2 => ?_)
          clear hK K
          (try simp only [Act.put, List.setIfInBounds_toArray, List.set_cons_zero, List.set_cons_succ])
          refine wpAnyH_take (i := 10) (oi := { dst := some 3, op := Op.assign (Operand.tmp 80), type := 4, pos := "l9_puzzle.go:306", after := #[{ on := 8, ground := Ground.data }, { on := 9, ground := Ground.chain }, { on := 0, ground := Ground.phase }, { on := 1, ground := Ground.phase }, { on := 2, ground := Ground.phase }, { on := 3, ground := Ground.phase }, { on := 4, ground := Ground.phase }, { on := 5, ground := Ground.phase }, { on := 6, ground := Ground.phase }, { on := 7, ground := Ground.phase }, { on := 8, ground := Ground.phase }, { on := 9, ground := Ground.phase }], guard := none }) (v := ?_) rfl (by kernel_rfl) (by kernel_rfl) (by kernel_rfl) np_putP (Or.inl ⟨by rfl, ?_⟩) (by assumption) ?_
          rotate_left
          · (intro wS hSw; go_simp; (try with_reducible rfl))
          (try simp only [Act.put, List.setIfInBounds_toArray, List.set_cons_zero, List.set_cons_succ])
          refine wpAnyH_done (by kernel_rfl) ?_ _
          refine NoPanic.normal ?_
          go_wp2_with fail
          try rw [RetCl.ok HOK.out]
          try rw [HQS.out]
          (first | rw [fl_yes HPB.out hq, HPB.out] | rw [fl_no HPB.out hq, HPB.out] | rw [HPB.out] | skip)
          obtain ⟨g0, g1, g2⟩ := put3_cells HR6.out t p (.slice a5 qs.length c5)
          unfold put3 at g0 g1 g2
          refine bodyPost_ret (v := .tuple #[.agg #[.int .i64 t, .int .i64 p, .slice a5 qs.length c5], .bool true]) (by simp [results, Tryd.f66, go_sem, g0, g1, g2]) rfl ⟨_, ret_flag (by first | rfl | simp [pzX_yes HPB.out, hq] | simp), ((HPZ.out.kept HB7.out).of (w' := put3 w7 w.heap.size t p (.slice a5 qs.length c5)) (by simp [put3]) (fun g h1 h2 => put3_heap _ _ _ _ _ (Nat.ne_of_gt (Nat.lt_of_lt_of_le hRB h1)))).wide (Nat.le_of_lt hRB) (by simp; exact HB7.out.size) (Nat.le_refl _), ?_⟩
          exact put3_below (HBN.out.trans (HB7.out.mono HBN.out.size)) (Nat.le_refl _) _ _ _
        · have hqq : ((byt (pzT t p qs qs.length)).toList == (byt l).toList) = false := str_ne hq
          refine wpAnyH_take (i := 7) (oi := { dst := some 79, op := Op.binOp BinOp.eql 9 (Operand.tmp 77) (Operand.tmp 78) 9, type := 4, pos := "l9_puzzle.go:306", after := #[{ on := 5, ground := Ground.data }, { on := 6, ground := Ground.data }, { on := 3, ground := Ground.guard }, { on := 9, ground := Ground.gcOnly Departure.lateStores }], guard := some (3, true) }) (v := ?_) rfl (by kernel_rfl) (by kernel_rfl) (by kernel_rfl) np_putP (Or.inl ⟨by rfl, ?_⟩) (by assumption) ?_
          rotate_left
          · (intro wS hSw; go_simp; (try with_reducible rfl))
          (try simp only [Act.put, List.setIfInBounds_toArray, List.set_cons_zero, List.set_cons_succ])
          refine wpAnyH_take (i := 8) (oi := { dst := some 80, op := Op.pick (Operand.tmp 75) (Operand.tmp 79) (Operand.const (Value.bool false)), type := 4, pos := "l9_puzzle.go:306", after := #[{ on := 3, ground := Ground.data }, { on := 7, ground := Ground.data }, { on := 9, ground := Ground.gcOnly Departure.lateStores }], guard := none }) (v := ?_) rfl (by kernel_rfl) (by kernel_rfl) (by kernel_rfl) np_putP (Or.inl ⟨by rfl, ?_⟩) (by assumption) ?_
          rotate_left
          · (intro wS hSw; go_simp; (try with_reducible rfl))
          (try simp only [Act.put, List.setIfInBounds_toArray, List.set_cons_zero, List.set_cons_succ])
          refine wpAnyH_ready (rs := [9]) (by kernel_rfl) (by simp) ?_
          refine AllReadyH.cons (o := { dst := none, op := Op.store 55 (Operand.tmp 2) (Operand.tmp 72), type := 0, pos := "l9_puzzle.go:306", after := #[{ on := 0, ground := Ground.data }, { on := 5, ground := Ground.chain }, { on := 0, ground := Ground.phase }, { on := 1, ground := Ground.textOnly Departure.lateStores }, { on := 2, ground := Ground.textOnly Departure.lateStoresUnsure }, { on := 3, ground := Ground.textOnly Departure.lateStores }, { on := 4, ground := Ground.textOnly Departure.lateStores }, { on := 5, ground := Ground.textOnly Departure.lateStoresUnsure }, { on := 6, ground := Ground.textOnly Departure.lateStores }, { on := 7, ground := Ground.textOnly Departure.lateStores }, { on := 8, ground := Ground.textOnly Departure.lateStores }], guard := none }) rfl (fun K hK => ?_) AllReadyH.nil
          go_simp
          refine hK.out _ _ ((put3_heap w7 w.heap.size t p (.slice a5 qs.length c5) hPR).trans (HB7.out.block P hPl)) (fun hHeld2 => ?_)
          clear hK K
          (try simp only [Act.put, List.setIfInBounds_toArray, List.set_cons_zero, List.set_cons_succ])
          refine wpAnyH_take (i := 10) (oi := { dst := some 3, op := Op.assign (Operand.tmp 80), type := 4, pos := "l9_puzzle.go:306", after := #[{ on := 8, ground := Ground.data }, { on := 9, ground := Ground.chain }, { on := 0, ground := Ground.phase }, { on := 1, ground := Ground.phase }, { on := 2, ground := Ground.phase }, { on := 3, ground := Ground.phase }, { on := 4, ground := Ground.phase }, { on := 5, ground := Ground.phase }, { on := 6, ground := Ground.phase }, { on := 7, ground := Ground.phase }, { on := 8, ground := Ground.phase }, { on := 9, ground := Ground.phase }], guard := none }) (v := ?_) rfl (by kernel_rfl) (by kernel_rfl) (by kernel_rfl) np_putP (Or.inl ⟨by rfl, ?_⟩) (by assumption) ?_
          rotate_left
          · (intro wS hSw; go_simp; (try with_reducible rfl))
          (try simp only [Act.put, List.setIfInBounds_toArray, List.set_cons_zero, List.set_cons_succ])
          refine wpAnyH_done (by kernel_rfl) ?_ _
          refine NoPanic.normal ?_
          go_wp2_with fail
          try rw [RetCl.ok HOK.out]
          try rw [HQS.out]
          (first | rw [fl_yes HPB.out hq, HPB.out] | rw [fl_no HPB.out hq, HPB.out] | rw [HPB.out] | skip)
          obtain ⟨g0, g1, g2⟩ := put3_cells HR6.out t p (.slice a5 qs.length c5)
          unfold put3 at g0 g1 g2
          refine bodyPost_ret (v := .tuple #[.agg #[.int .i64 t, .int .i64 p, .slice a5 qs.length c5], .bool false]) (by simp [results, Tryd.f66, go_sem, g0, g1, g2]) rfl ⟨_, ret_flag (by first | rfl | simp [pzX_yes HPB.out, hq] | simp), ((HPZ.out.kept HB7.out).of (w' := put3 w7 w.heap.size t p (.slice a5 qs.length c5)) (by simp [put3]) (fun g h1 h2 => put3_heap _ _ _ _ _ (Nat.ne_of_gt (Nat.lt_of_lt_of_le hRB h1)))).wide (Nat.le_of_lt hRB) (by simp; exact HB7.out.size) (Nat.le_refl _), ?_⟩
          exact put3_below (HBN.out.trans (HB7.out.mono HBN.out.size)) (Nat.le_refl _) _ _ _
end Go.Proofs.YtgobjobppajkbaaDoor

namespace Go.Proofs.YtgobjobppajkbaaDoor
open Go.RowKit
set_option linter.unusedVariables false

/-- What the model tells. -/
def mrT (l : List UInt8) : Int := if mqF l = true then (mqM l).1 else 0
def mrP (l : List UInt8) : Int := if mqF l = true then (mqM l).2 else 0
def mrC (l : List UInt8) : List Pt := if mqF l = true then mqC l else []
theorem ret_no {l : List UInt8} {w : World} (h : mqF l = false) : RetPuz (mrT l) (mrP l) (mrC l) (mqB l) w = RetPuz 0 0 [] false w := by
  rw [mrT, mrP, mrC, mqB, h]; simp
theorem ret_yes {l : List UInt8} {w : World} (h : mqF l = true) : RetPuz (mrT l) (mrP l) (mrC l) (mqB l) w = RetPuz (mqM l).1 (mqM l).2 (mqC l) (pzB (mqM l).1 (mqM l).2 (mqC l) && decide (pzX (mqM l).1 (mqM l).2 (mqC l) = byt l)) w := by
  rw [mrT, mrP, mrC, mqB, h]; simp
theorem pzParse_any (l : List UInt8) (w : World) (hl : l.length ≤ 1048576) :
    Calls Tryd.prog 66 #[.string (byt l)] w (RetPuz (mrT l) (mrP l) (mrC l) (mqB l) w) := by
  by_cases h1 : l.length ≤ 160
  · have h1' : (l.length : Int) ≤ 160 := by omega
    by_cases h2 : (spl 58 l).length = 2
    · obtain ⟨a, b, hab⟩ := two_ofP h2
      have d0 : (spl 58 l).getD 0 [] = a := by rw [hab]; rfl
      have d1 : (spl 58 l).getD 1 [] = b := by rw [hab]; rfl
      have eM : mqM l = rdm (byt a) := by rw [mqM, d0]
      have eC : mqC l = qcL b := by rw [mqC, d1]
      have eF : mqF l = (decide ((rdm (byt a)).1 ≠ 0) && qcF b) := by rw [mqF, eM, d1, decide_eq_true h1, h2]; rfl
      by_cases h3 : (rdm (byt a)).1 = 0
      · rw [ret_no (by rw [eF, h3]; rfl)]
        exact pzParse_map l a b h1' hab h3 w
      · by_cases hb : b = []
        · subst hb
          have hF : mqF l = true := by rw [eF, decide_eq_true h3]; rfl
          have hC : mqC l = [] := by rw [eC]; rfl
          rw [ret_yes hF, eM, hC]
          exact pzParse_none l a [] rfl h1' hab h3 w
        · have h := pzParse_some l a b hb h1' hab h3 w
          have eQ : qcF b = qcT (spl 44 b) := by rw [qcF, if_neg hb]
          have eL : qcL b = (spl 44 b).map qcC := by rw [qcL, if_neg hb]
          cases hq : qcT (spl 44 b) with
          | true =>
            rw [RetCl.ok hq] at h
            have hF : mqF l = true := by rw [eF, eQ, hq, decide_eq_true h3]; rfl
            rw [ret_yes hF, eM, eC, eL]
            exact h
          | false =>
            rw [RetCl.bad hq] at h
            rw [ret_no (by rw [eF, eQ, hq, Bool.and_false])]
            exact h
    · have e : ((spl 58 l).length == 2) = false := by simpa using h2
      rw [ret_no (by rw [mqF, e]; simp)]
      exact pzParse_parts l h1' h2 w
  · rw [ret_no (by rw [mqF, decide_eq_false h1]; rfl)]
    exact pzParse_long l (by omega) w
end Go.Proofs.YtgobjobppajkbaaDoor

namespace Go.Proofs.YtgobjobppajkbaaDoor
open Go.RowKit
set_option linter.unusedVariables false

def mzT (l : List UInt8) : Int := if mqB l = true then (mqM l).1 else 0
def mzP (l : List UInt8) : Int := if mqB l = true then (mqM l).2 else 0
def mzC (l : List UInt8) : List Pt := if mqB l = true then mqC l else []
theorem mqB_F {l : List UInt8} (h : mqB l = true) : mqF l = true := by rw [mqB, Bool.and_eq_true] at h; exact h.1
set_option maxHeartbeats 2000000 in
theorem sParsePuzzle (l : List UInt8) (hl : l.length ≤ 1048576) (w : World) :
    Calls Tryd.prog 29 #[.string (byt l)] w (RetPuz (mzT l) (mzP l) (mzC l) (mqB l) w) := by
  have HM := Lib.hid (fun W => pzParse_any l W hl)
  have e : mqB l = true → mrT l = mzT l ∧ mrP l = mzP l ∧ mrC l = mzC l := fun h => by
    rw [mrT, mrP, mrC, mzT, mzP, mzC, if_pos (mqB_F h), if_pos (mqB_F h), if_pos (mqB_F h), if_pos h, if_pos h, if_pos h]; exact ⟨rfl, rfl, rfl⟩
  have e2 : mqB l = false → mzT l = 0 ∧ mzP l = 0 ∧ mzC l = [] := fun h => by
    rw [mzT, mzP, mzC, h]; exact ⟨rfl, rfl, rfl⟩
  cases hq : mqB l with
  | true =>
    obtain ⟨e1, e3, e4⟩ := e hq
    rw [hq, e1, e3, e4] at HM
    generalize mzT l = t at *
    generalize mzP l = p at *
    generalize mzC l = qs at *
    clear e e2 e1 e3 e4 hq hl
    have HR := Lib.hid (BzF.new w 0 0 (.slice none 0 0) 55 rfl)
    have HB := Lib.hid (below_alloc w (.cells #[.int .i64 0, .int .i64 0, .slice none 0 0] 55))
    go_enter Tryd.func29, Tryd.ntmps29
    go_wp2_with fail
    refine (HM.out _).mono ?_
    rintro e w1 ⟨v1, rfl, m1, hb1⟩
    have M1 := Lib.hid m1
    obtain ⟨hh, a, c, rfl, _⟩ := m1
    have hz1 := hb1.size
    have HB1 := Lib.hid ((HB.out.trans (hb1.mono HB.out.size)).trans ((below_alloc w1 (.cells #[.int .i64 t, .int .i64 p, .slice a qs.length c] 55)).mono (Nat.le_trans HB.out.size hb1.size)))
    have HR1 := Lib.hid ((HR.out.kept hb1).kept (below_alloc w1 (.cells #[.int .i64 t, .int .i64 p, .slice a qs.length c] 55)))
    have M2 := Lib.hid (M1.out.kept (below_alloc w1 (.cells #[.int .i64 t, .int .i64 p, .slice a qs.length c] 55)))
    obtain ⟨r0, r1, r2, f0, f1, f2⟩ := HR1.out.cells
    have hRl := HR1.out.1.2
    have hne : ¬ w1.heap.size = w.heap.size := by simp at hz1; omega
    have hne2 : ¬ w.heap.size = w1.heap.size := by simp at hz1; omega
    clear hb1
    go_wp2_with fail
    obtain ⟨g0, g1, g2⟩ := put3_cells HR1.out t p (.slice a qs.length c)
    unfold put3 at g0 g1 g2
    refine bodyPost_ret (v := .tuple #[.agg #[.int .i64 t, .int .i64 p, .slice a qs.length c], .bool true]) (by simp [results, Tryd.f29, go_sem, g0, g1, g2]) rfl ⟨_, rfl, (M2.out.of (w' := put3 (w1.alloc (.cells #[.int .i64 t, .int .i64 p, .slice a qs.length c] 55)) w.heap.size t p (.slice a qs.length c)) (by simp [put3]) (fun g h1 h2 => put3_heap _ _ _ _ _ (by simp at h1; omega))).wide (by simp) (by simp) (Nat.le_refl _), ?_⟩
    exact put3_below HB1.out (Nat.le_refl _) _ _ _
  | false =>
    obtain ⟨e1, e3, e4⟩ := e2 hq
    rw [hq] at HM
    rw [e1, e3, e4]
    generalize mrT l = t at *
    generalize mrP l = p at *
    generalize mrC l = qs at *
    clear e e2 e1 e3 e4 hq hl
    have HR := Lib.hid (BzF.new w 0 0 (.slice none 0 0) 55 rfl)
    have HB := Lib.hid (below_alloc w (.cells #[.int .i64 0, .int .i64 0, .slice none 0 0] 55))
    go_enter Tryd.func29, Tryd.ntmps29
    go_wp2_with fail
    refine (HM.out _).mono ?_
    rintro e w1 ⟨v1, rfl, m1, hb1⟩
    have M1 := Lib.hid m1
    obtain ⟨hh, a, c, rfl, _⟩ := m1
    have hz1 := hb1.size
    have HB1 := Lib.hid ((HB.out.trans (hb1.mono HB.out.size)).trans ((below_alloc w1 (.cells #[.int .i64 t, .int .i64 p, .slice a qs.length c] 55)).mono (Nat.le_trans HB.out.size hb1.size)))
    have HR1 := Lib.hid ((HR.out.kept hb1).kept (below_alloc w1 (.cells #[.int .i64 t, .int .i64 p, .slice a qs.length c] 55)))
    have M2 := Lib.hid (M1.out.kept (below_alloc w1 (.cells #[.int .i64 t, .int .i64 p, .slice a qs.length c] 55)))
    obtain ⟨r0, r1, r2, f0, f1, f2⟩ := HR1.out.cells
    have hRl := HR1.out.1.2
    have hne : ¬ w1.heap.size = w.heap.size := by simp at hz1; omega
    have hne2 : ¬ w.heap.size = w1.heap.size := by simp at hz1; omega
    clear hb1
    go_wp2_with fail
    obtain ⟨g0, g1, g2⟩ := put3_cells HR1.out 0 0 (.slice none 0 0)
    unfold put3 at g0 g1 g2
    refine bodyPost_ret (v := .tuple #[.agg #[.int .i64 0, .int .i64 0, .slice none 0 0], .bool false]) (by simp [results, Tryd.f29, go_sem, g0, g1, g2]) rfl ⟨_, rfl, puz_nil _ _, ?_⟩
    exact put3_below HB1.out (Nat.le_refl _) _ _ _
end Go.Proofs.YtgobjobppajkbaaDoor
