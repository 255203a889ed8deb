/-
  'omParse' of the model (gen_ops.py).
-/
import Derived.Test.YtgobjobppajkbaaDoorOtV
import Derived.Test.YtgobjobppajkbaaDoorSpS
import Derived.Test.YtgobjobppajkbaaDoorPtO
import Derived.Test.YtgobjobppajkbaaDoorOtX
import Derived.Deep.RegionHeld3
import Derived.Deep.CutRange
import Derived.Deep.CutBlock
namespace Go.Proofs.YtgobjobppajkbaaDoor
open Go.RowKit
set_option linter.unusedVariables false

theorem addr_jO (g j : Nat) : (⟨g, 0, none⟩ : Addr).add j = ⟨g, j, none⟩ := by cases j <;> simp [Addr.add]
theorem two_ofO : ∀ {l : List (List UInt8)}, l.length = 2 → ∃ a b, l = [a, b]
  | [a, b], _ => ⟨a, b, rfl⟩
theorem np_putO {Q : Exit → Act → World → Prop} {d : Option Tmp} {v : Value} : ∀ c (a : Act) (w : World), NoPanic Q (Exit.panic c) (a.put d v) w → NoPanic Q (Exit.panic c) a w := fun _ _ _ h => h
theorem ret_flagO {v : Value} {x y : Bool} (h : x = y) : Ending.returned (.tuple #[v, .bool x]) = .returned (.tuple #[v, .bool y]) := by rw [h]
theorem fl_yesO {qs : List Pt} {l : List UInt8} (h : omB qs = true) (hq : byt (otT qs qs.length) = byt l) : decide (otX qs = byt l) = true := by rw [otX_yes h]; exact decide_eq_true hq
theorem fl_noO {qs : List Pt} {l : List UInt8} (h : omB qs = true) (hq : ¬ byt (otT qs qs.length) = byt l) : decide (otX qs = byt l) = false := by rw [otX_yes h]; exact decide_eq_false hq
theorem rdL_bnd (l : List UInt8) : -1 ≤ rdL l ∧ rdL l ≤ 999999 := by
  unfold rdL
  split
  · rename_i h
    have h1 := rdF_ge l 0 (Int.le_refl _)
    have h2 := rdF_bound l 0 1 (Int.le_refl _) (by omega)
    rw [rdOk, Bool.and_eq_true, decide_eq_true_eq] at h
    have h3 : (10 : Int) ^ l.length ≤ 10 ^ 6 := by
      have : 10 ^ l.length ≤ 10 ^ 6 := Nat.pow_le_pow_right (by omega) h.1.2
      exact_mod_cast this
    have h4 : (10 : Int) ^ 6 = 1000000 := by decide
    omega
  · omega
theorem infoPtS : (Tryd.prog.info? 118).map (fun i => (i.zero, i.size, i.bytes)) = some (some (.agg #[.int .i64 0, .int .i64 0, .int .i64 0]), 3, 24) := by kernel_rfl
theorem oth_one (W : World) (t p o : Int) (T : TypeId) : OthIn (W.alloc (.cells #[.int .i64 t, .int .i64 p, .int .i64 o] T)) (.agg #[.slice (some ⟨W.heap.size, 0, none⟩) 1 1]) [(t, p, o)] := by
  refine ⟨_, rfl, _, 1, rfl, fun _ => ⟨W.heap.size, rfl, Nat.zero_le _, by simp, fun j hj => ?_⟩⟩
  obtain rfl : j = 0 := by simpa using hj
  exact ⟨⟨by go_simp, by go_simp, by go_simp⟩, by go_simp, by go_simp, by go_simp⟩
/-- A box of a part that may be written. -/
structure Qx (w : World) (b : Nat) (t p o : Int) : Prop where
  c0 : w.cell? ⟨b, 0, none⟩ = some (.int .i64 t)
  c1 : w.cell? ⟨b, 1, none⟩ = some (.int .i64 p)
  c2 : w.cell? ⟨b, 2, none⟩ = some (.int .i64 o)
  f0 : w.frozen? ⟨b, 0, none⟩ = false
  f1 : w.frozen? ⟨b, 1, none⟩ = false
  f2 : w.frozen? ⟨b, 2, none⟩ = false
  lt : b < w.heap.size
theorem Qx.of {w w' : World} {b : Nat} {t p o : Int} (h : Qx w b t p o) (hs : w.heap.size ≤ w'.heap.size) (he : w'.heap[b]? = w.heap[b]?) : Qx w' b t p o :=
  ⟨(World.cell?_of_block (a := ⟨b, _, none⟩) he).trans h.c0, (World.cell?_of_block (a := ⟨b, _, none⟩) he).trans h.c1, (World.cell?_of_block (a := ⟨b, _, none⟩) he).trans h.c2, (World.frozen?_of_block (a := ⟨b, _, none⟩) he).trans h.f0, (World.frozen?_of_block (a := ⟨b, _, none⟩) he).trans h.f1, (World.frozen?_of_block (a := ⟨b, _, none⟩) he).trans h.f2, Nat.lt_of_lt_of_le h.lt hs⟩
theorem Qx.kept {w w' : World} {b : Nat} {t p o : Int} (h : Qx w b t p o) (hb : Below w.heap.size w w') : Qx w' b t p o := h.of hb.size (hb.block b h.lt)
theorem Qx.new (w : World) (t p o : Int) (T : TypeId) {b : Nat} (hb : w.heap.size = b) : Qx (w.alloc (.cells #[.int .i64 t, .int .i64 p, .int .i64 o] T)) b t p o := by
  subst hb
  exact ⟨by go_simp, by go_simp, by go_simp, by go_simp, by go_simp, by go_simp, by simp⟩
theorem Qx.set1 {w : World} {b : Nat} {t p o : Int} (h : Qx w b t p o) (x : Int) : Qx (w.setCell ⟨b, 1, none⟩ (.int .i64 x)) b t x o :=
  ⟨(World.cell?_setCell_other _ _ _ _ (by simp)).trans h.c0, World.cell?_setCell_same' _ _ _ (by rw [h.c1]; rfl), (World.cell?_setCell_other _ _ _ _ (by simp)).trans h.c2, by rw [World.frozen?_setCell]; exact h.f0, by rw [World.frozen?_setCell]; exact h.f1, by rw [World.frozen?_setCell]; exact h.f2, by simpa using h.lt⟩

theorem KpA.of_belowN {N m n : Nat} {A C : World} (hb : Below n A C) (hs : A.heap.size ≤ C.heap.size) (hN : N ≤ n) : KpA N m A C := ⟨hb.os, hb.tape, hb.output, hs, fun g hg _ => hb.block g (by omega)⟩
theorem KpA.weak {N m N' m' : Nat} {A C : World} (h : KpA N m A C) (hg : ∀ g, g < N' → g ≠ m' → g < N ∧ g ≠ m) : KpA N' m' A C :=
  ⟨h.os, h.tape, h.output, h.size, fun g h1 h2 => h.block g (hg g h1 h2).1 (hg g h1 h2).2⟩
theorem rowK {A C : World} {N m B : Nat} {u : Value} {qs : List Pt} (h : PtsAt A B u qs) (hk : KpA N m A C) (hg : ∀ g, u.ownBlock = some g → g < N ∧ g ≠ m) : PtsAt C B u qs := by
  refine ⟨h.1, ?_⟩
  rcases h.2 with hn | ⟨g, cap, cur, rfl, hB, hb, r⟩
  · exact .inl hn
  · exact .inr ⟨g, cap, cur, rfl, hB, (hk.block g (hg g rfl).1 (hg g rfl).2).trans hb, r⟩
/-- What comes of the pieces. -/
def RetOq (l : List UInt8) (ps : List (List UInt8)) (w : World) : Ending → World → Prop := if oqT ps = true then RetO (ps.map oqC) (omB (ps.map oqC) && decide (otX (ps.map oqC) = byt l)) w else RetO [] false w
theorem RetOq.bad {l : List UInt8} {ps : List (List UInt8)} {w : World} (h : oqT ps = false) : RetOq l ps w = RetO [] false w := by rw [RetOq, if_neg (by rw [h]; simp)]
theorem RetOq.ok {l : List UInt8} {ps : List (List UInt8)} {w : World} (h : oqT ps = true) : RetOq l ps w = RetO (ps.map oqC) (omB (ps.map oqC) && decide (otX (ps.map oqC) = byt l)) w := by rw [RetOq, if_pos h]

set_option maxRecDepth 100000 in
set_option maxHeartbeats 4000000 in
theorem omParse_long (l : List UInt8) (hl : 120 < (l.length : Int)) (w : World) :
    Calls Tryd.prog 49 #[.string (byt l)] w (RetO [] false w) := by
  have hsz : (((byt l).size : Nat) : Int) = (l.length : Int) := by rw [dbl]
  have HB := Lib.hid (below_new w (.cells #[.slice none 0 0] 42))
  go_enter Tryd.func49, Tryd.ntmps49
  go_wp2_with fail
  refine bodyPost_ret (v := .tuple #[.agg #[.slice none 0 0], .bool false]) (by simp [results, Tryd.f49, go_sem]) rfl ⟨_, rfl, othAt_none (Nat.le_refl _), HB.out⟩

set_option maxRecDepth 100000 in
set_option maxHeartbeats 8000000 in
theorem omParse_short (l : List UInt8) (hl : (l.length : Int) ≤ 120) (w : World) :
    Calls Tryd.prog 49 #[.string (byt l)] w (RetOq l (spl 59 l) w) := by
  have hsz : (((byt l).size : Nat) : Int) = (l.length : Int) := by rw [dbl]
  have hl2 : ¬ 120 < (l.length : Int) := by omega
  have HS := Lib.hid (fun W => l1Split_any l 59 (by omega) W)
  have HNE := Lib.hid (List.length_pos_iff.2 (spl_ne 59 l))
  have HPL := Lib.hid (spl_len 59 l)
  have HPM := Lib.hid (spl_mem 59 l)
  have hll : l.length ≤ 120 := by omega
  obtain ⟨i0, hi, hi0, hi1, hi2⟩ := info_parts infoPtS
  have HR := Lib.hid ((BoF.new w (.slice none 0 0) 42 rfl).kept (below_new _ (.cells #[.slice none 0 0] 42)))
  have HB := Lib.hid ((below_new w (.cells #[.slice none 0 0] 42)).trans ((below_new (w.alloc (.cells #[.slice none 0 0] 42)) (.cells #[.slice none 0 0] 42)).mono (by simp)))
  have HP := Lib.hid (BoF.new (w.alloc (.cells #[.slice none 0 0] 42)) (.slice none 0 0) 42 (b := w.heap.size + 1) (by simp))
  go_enter Tryd.func49, Tryd.ntmps49
  go_wp2_with fail
  refine (HS.out _).mono ?_
  rintro e w3 ⟨v3, rfl, hrow3, hb3⟩
  obtain ⟨g3, cap3, rfl, hg3, hg4'⟩ := World.ownsRow.form hrow3 HNE.out
  replace HR := Lib.hid (HR.out.kept hb3)
  replace HB := Lib.hid (HB.out.trans (hb3.mono HB.out.size))
  replace HP := Lib.hid (HP.out.kept hb3)
  have HC3 := Lib.hid (hrow3.cells (g := g3) rfl)
  have hz3 : w.heap.size + 2 ≤ w3.heap.size := by have := hb3.size; simp at this; omega
  have hg3' : w.heap.size + 2 ≤ g3 := by simp at hg3; omega
  clear hrow3 hb3 hg3
  generalize hps : spl 59 l = ps at *
  obtain ⟨B, hB⟩ : ∃ B, w3.heap.size = B := ⟨_, rfl⟩
  go_wp2_with fail
  go_loopw [18] (fun i wr => ∃ j : Nat, i = .int .i64 (j : Nat) ∧ j ≤ ps.length ∧ oqT (ps.take j) = true ∧ KpA B (w.heap.size + 1) w3 wr ∧ ∃ u, BoF wr (w.heap.size + 1) u ∧ PtsAt wr B u ((ps.take j).map oqC)) (fun i _ => ps.length - (RowKit.intOf i).toNat)
  case atStart => exact ⟨0, rfl, Nat.zero_le _, rfl, ⟨rfl, rfl, rfl, Nat.le_refl _, fun _ _ _ => rfl⟩, _, HP.out, ptsAt_nil _ _⟩
  case round =>
    obtain ⟨j, rfl, hj, hT, hK, u, hbx, hcl⟩ := hrel
    have HK := Lib.hid hK
    have HX := Lib.hid hbx
    have HL := Lib.hid hcl
    have hwr := hK.size
    by_cases hlt : j < ps.length
    · have hlt2 : (j : Int) < (ps.length : Int) := by omega
      have hj0 : (0 : Int) ≤ (j : Int) := by omega
      obtain ⟨x, hx⟩ : ∃ x, ps[j]? = some x := ⟨_, List.getElem?_eq_getElem hlt⟩
      have hxl : x.length ≤ 120 := by have := HPM.out x (List.mem_of_getElem? hx); omega
      have hcell : wr.cell? ⟨g3, j, none⟩ = some (.string (byt x)) := by
        have h := HC3.out j _ (by rw [txV, List.getElem?_map, hx]; rfl)
        rw [World.cell?_of_block (w := w3) (w' := wr) (a := ⟨g3, j, none⟩) (hK.block g3 (by omega) (by omega))]
        rwa [addr_jO] at h
      have HSn := Lib.hid (fun W => l1Split_any x 110 (by omega) W)
      have HSo := Lib.hid (fun W => l1Split_any x 47 (by omega) W)
      have HPN := Lib.hid (List.length_pos_iff.2 (spl_ne 110 x))
      have HPO := Lib.hid (List.length_pos_iff.2 (spl_ne 47 x))
      have hPMn : ∀ q ∈ spl 110 x, q.length ≤ 120 := fun q hq => Nat.le_trans (spl_mem 110 x q hq) hxl
      have hPMo : ∀ q ∈ spl 47 x, q.length ≤ 120 := fun q hq => Nat.le_trans (spl_mem 47 x q hq) hxl
      have hpsl : ps.length ≤ 121 := by have := HPL.out; omega
      have HHX := Lib.hid hx
      have HBAD : Hid (oqO x = false → oqT ps = false) := Lib.hid (fun h => by
        rw [oqT, List.all_eq_false]
        exact ⟨x, List.mem_of_getElem? hx, by rw [h]; simp⟩)
      obtain ⟨wo, hwo⟩ : ∃ wo, wo = wr := ⟨_, rfl⟩
      subst hwo
      clear hK hbx hcl hx
      go_wp2_with fail
      refine (HSn.out _).mono ?_
      rintro e w4 ⟨v4, rfl, hrow4, hb4⟩
      obtain ⟨g4, cap4, rfl, hg4a, hg4b⟩ := World.ownsRow.form hrow4 HPN.out
      go_wp2_with fail
      refine (HSo.out _).mono ?_
      rintro e w5 ⟨v5, rfl, hrow5, hb5⟩
      obtain ⟨g5, cap5, rfl, hg5a, hg5b⟩ := World.ownsRow.form hrow5 HPO.out
      have hz4 := hb4.size
      have hz5 := hb5.size
      have hbo := hb4.trans (hb5.mono hb4.size)
      have HK4 : Hid (KpA B (w.heap.size + 1) wo w5) := Lib.hid (KpA.of_below hbo (by omega))
      have HBX5 := Lib.hid (HX.out.kept hbo)
      have HCL := Lib.hid (ownsRow_kept HL.out hbo)
      have HRX : Hid (BoF w5 w.heap.size (.slice none 0 0)) := Lib.hid (HR.out.of (by omega) ((HK.out.trans HK4.out).block _ (by omega) (by omega)))
      have HBX : Hid (Below w.heap.size w w5) := Lib.hid (HB.out.trans ((HK.out.trans HK4.out).below (n := w.heap.size) (by omega) (by omega)))
      obtain ⟨r0, f0⟩ := HRX.out.cells
      by_cases h2 : (spl 110 x).length = 2
      · by_cases h3 : (spl 47 x).length = 2
        · obtain ⟨x0, x1, hxn⟩ := two_ofO h2
          obtain ⟨y0, y1, hxo⟩ := two_ofO h3
          have d0 : w5.cell? ⟨g4, 0, none⟩ = some (.string (byt x0)) := by
            have h := hrow4.cells (g := g4) rfl 0 (.string (byt x0)) (by rw [hxn]; rfl)
            rw [addr_jO] at h
            exact (hb5.cell (p := ⟨g4, 0, none⟩) hg4b).trans h
          have d1 : w5.cell? ⟨g5, 1, none⟩ = some (.string (byt y1)) := by
            have h := hrow5.cells (g := g5) rfl 1 (.string (byt y1)) (by rw [hxo]; rfl)
            rwa [addr_jO] at h
          have HR0 := Lib.hid (fun W => l1Read_any x0 (by have := hPMn x0 (by rw [hxn]; simp); omega) W)
          have HR1 := Lib.hid (fun W => l1Read_any y1 (by have := hPMo y1 (by rw [hxo]; simp); omega) W)
          have hQ : oqC x = (rdL x0, plF (rdL x0) (rdL y1) x 41 (-20), rdL y1) := by
            have e1 : (spl 110 x).getD 0 [] = x0 := by rw [hxn]; rfl
            have e2 : (spl 47 x).getD 1 [] = y1 := by rw [hxo]; rfl
            rw [oqC, e1, e2]
          have HQX : Hid ((ps.take (j + 1)).map oqC = (ps.take j).map oqC ++ [(rdL x0, plF (rdL x0) (rdL y1) x 41 (-20), rdL y1)]) := Lib.hid (by
            rw [List.take_add_one, HHX.out, Option.toList_some, List.map_append, List.map_singleton, hQ])
          have HTY : Hid (oqT (ps.take (j + 1)) = true) := Lib.hid (by
            rw [List.take_add_one, HHX.out, Option.toList_some, oqT, List.all_append]
            rw [oqT] at hT
            rw [hT]
            simp [oqO, h2, h3])
          obtain ⟨bt0, bt1⟩ := rdL_bnd x0
          obtain ⟨bo0, bo1⟩ := rdL_bnd y1
          have HML0 : Hid (((ps.take j).map oqC).length ≤ 121) := Lib.hid (by simp; omega)
          generalize (ps.take j).map oqC = qs at *
          generalize rdL x0 = t at *
          generalize rdL y1 = o at *
          have hg5 : g4 < w5.drew.heap.size := by simp; omega
          have hg6 : g5 < w5.drew.heap.size := by simpa using hg5b
          have hPB : w.heap.size + 1 < B := by omega
          have hBw : B ≤ w5.heap.size := by omega
          have hQne : ¬ g4 = w5.heap.size := by omega
          have hQne2 : ¬ g5 = w5.heap.size := by omega
          have h2i : ((spl 110 x).length : Int) = 2 := by omega
          have h3i : ((spl 47 x).length : Int) = 2 := by omega
          clear hrow4 hrow5 hb4 hb5 hbo hPMn hPMo hT hxn hxo HHX hps hQ h2 h3
          generalize (spl 110 x).length = n2 at *
          generalize (spl 47 x).length = n3 at *
          obtain rfl : n2 = 2 := by omega
          obtain rfl : n3 = 2 := by omega
          go_upto_region 10 with fail
          go_cut [9] from 34 to 43 (fun s9 wx => s9 = .pointer (some ⟨w5.heap.size, 0, none⟩) ∧ Hid (w5.drew.alloc (.cells #[.int .i64 t, .int .i64 0, .int .i64 o] 118) = wx))
          case first =>
            refine wp_region_noPanic ?_
            refine wp_region_held_drew (S := fun W => W.heap[g4]? = w5.heap[g4]? ∧ W.heap[g5]? = w5.heap[g5]?) (by kernel_rfl) ⟨rfl, rfl⟩ (fun hHeld => ?_)
            refine wpAnyH_take (i := 0) (oi := { dst := some 35, op := Op.move (Operand.tmp 7), type := 91, pos := "l8_other.go:288", after := #[], guard := none }) (v := ?_) rfl (by kernel_rfl) (by kernel_rfl) (by kernel_rfl) np_putO (Or.inl ⟨by rfl, ?_⟩) (by assumption) ?_
            rotate_left
            · (intro wS hSw; go_simp; (try with_reducible rfl))
            (try simp only [Act.put, List.setIfInBounds_toArray, List.set_cons_zero, List.set_cons_succ])
            refine wpAnyH_take (i := 1) (oi := { dst := some 36, op := Op.indexAddr 91 (Operand.tmp 35) (Operand.const (Value.int IntKind.i64 0)), type := 0, pos := "l8_other.go:288", after := #[{ on := 0, ground := Ground.data }], guard := none }) (v := ?_) rfl (by kernel_rfl) (by kernel_rfl) (by kernel_rfl) np_putO (Or.inl ⟨by rfl, ?_⟩) (by assumption) ?_
            rotate_left
            · (intro wS hSw; go_simp; (try with_reducible rfl))
            (try simp only [Act.put, List.setIfInBounds_toArray, List.set_cons_zero, List.set_cons_succ])
            refine wpAnyH_take (i := 2) (oi := { dst := some 37, op := Op.load 9 (Operand.tmp 36), type := 9, pos := "l8_other.go:288", after := #[{ on := 1, ground := Ground.data }], guard := none }) (v := ?_) rfl (by kernel_rfl) (by kernel_rfl) (by kernel_rfl) np_putO (Or.inl ⟨by rfl, ?_⟩) (by assumption) ?_
            rotate_left
            · (intro wS hSw; have qq0 := (World.cell?_of_block (a := ⟨g4, 0, none⟩) hSw.1).trans d0; go_simp; (try with_reducible rfl))
            (try simp only [Act.put, List.setIfInBounds_toArray, List.set_cons_zero, List.set_cons_succ])
            refine wpAnyH_take (i := 4) (oi := { dst := some 39, op := Op.move (Operand.tmp 8), type := 91, pos := "l8_other.go:288", after := #[], guard := none }) (v := ?_) rfl (by kernel_rfl) (by kernel_rfl) (by kernel_rfl) np_putO (Or.inl ⟨by rfl, ?_⟩) (by assumption) ?_
            rotate_left
            · (intro wS hSw; go_simp; (try with_reducible rfl))
            (try simp only [Act.put, List.setIfInBounds_toArray, List.set_cons_zero, List.set_cons_succ])
            refine wpAnyH_take (i := 5) (oi := { dst := some 40, op := Op.indexAddr 91 (Operand.tmp 39) (Operand.const (Value.int IntKind.i64 1)), type := 0, pos := "l8_other.go:288", after := #[{ on := 4, ground := Ground.data }], guard := none }) (v := ?_) rfl (by kernel_rfl) (by kernel_rfl) (by kernel_rfl) np_putO (Or.inl ⟨by rfl, ?_⟩) (by assumption) ?_
            rotate_left
            · (intro wS hSw; go_simp; (try with_reducible rfl))
            (try simp only [Act.put, List.setIfInBounds_toArray, List.set_cons_zero, List.set_cons_succ])
            refine wpAnyH_take (i := 6) (oi := { dst := some 41, op := Op.load 9 (Operand.tmp 40), type := 9, pos := "l8_other.go:288", after := #[{ on := 5, ground := Ground.data }], guard := none }) (v := ?_) rfl (by kernel_rfl) (by kernel_rfl) (by kernel_rfl) np_putO (Or.inl ⟨by rfl, ?_⟩) (by assumption) ?_
            rotate_left
            · (intro wS hSw; have qq1 := (World.cell?_of_block (a := ⟨g5, 1, none⟩) hSw.2).trans d1; go_simp; (try with_reducible rfl))
            (try simp only [Act.put, List.setIfInBounds_toArray, List.set_cons_zero, List.set_cons_succ])
            refine wpAnyH_ready (rs := [3, 9]) (by kernel_rfl) (by simp) ?_
            refine AllReadyH.cons (o := { dst := some 38, op := Op.call { callee := Callee.value (Operand.func 81), args := #[Operand.tmp 37], argTypes := #[9] }, type := 3, pos := "l8_other.go:288", after := #[{ on := 2, ground := Ground.data }], guard := none }) rfl (fun K hK => ?_) (AllReadyH.cons (o := { dst := some 9, op := Op.alloc 118, type := 0, pos := "l8_other.go:288", after := #[], guard := none }) rfl (fun K hK => ?_) AllReadyH.nil)
            · go_simp
              (go_at_call 81; refine (HR0.out _).mono ?_; rintro e w7 ⟨rfl, rfl⟩)
              refine hK.out _ _ (⟨rfl, rfl⟩) (fun hHeld2 => ?_)
              clear hK K
              (try simp only [Act.put, List.setIfInBounds_toArray, List.set_cons_zero, List.set_cons_succ])
              refine wpAnyH_ready (rs := [7, 9]) (by kernel_rfl) (by simp) ?_
              refine AllReadyH.cons (o := { dst := some 42, op := Op.call { callee := Callee.value (Operand.func 81), args := #[Operand.tmp 41], argTypes := #[9] }, type := 3, pos := "l8_other.go:288", after := #[{ on := 6, ground := Ground.data }, { on := 3, ground := Ground.chain }], guard := none }) rfl (fun K hK => ?_) (AllReadyH.cons (o := { dst := some 9, op := Op.alloc 118, type := 0, pos := "l8_other.go:288", after := #[], guard := none }) rfl (fun K hK => ?_) AllReadyH.nil)
              · go_simp
                (go_at_call 81; refine (HR1.out _).mono ?_; rintro e w7 ⟨rfl, rfl⟩)
                refine hK.out _ _ (⟨rfl, rfl⟩) (fun hHeld2 => ?_)
                clear hK K
                (try simp only [Act.put, List.setIfInBounds_toArray, List.set_cons_zero, List.set_cons_succ])
                refine wpAnyH_take (i := 8) (oi := { dst := some 43, op := Op.build 118 #[(0, Operand.tmp 38), (2, Operand.tmp 42)], type := 118, pos := "l8_other.go:288", after := #[{ on := 3, ground := Ground.data }, { on := 7, ground := Ground.data }], guard := none }) (v := ?_) rfl (by kernel_rfl) (by kernel_rfl) (by kernel_rfl) np_putO (Or.inl ⟨by rfl, ?_⟩) (by assumption) ?_
                rotate_left
                · (intro wS hSw; go_simp; (try with_reducible rfl))
                (try simp only [Act.put, List.setIfInBounds_toArray, List.set_cons_zero, List.set_cons_succ])
                refine wpAnyH_ready (rs := [9]) (by kernel_rfl) (by simp) ?_
                refine AllReadyH.cons (o := { dst := some 9, op := Op.alloc 118, type := 0, pos := "l8_other.go:288", after := #[], guard := none }) rfl (fun K hK => ?_) AllReadyH.nil
                go_simp
                refine hK.out _ _ (⟨(below_new w5.drew _).block _ hg5, (below_new w5.drew _).block _ hg6⟩) (fun hHeld2 => ?_)
                clear hK K
                (try simp only [Act.put, List.setIfInBounds_toArray, List.set_cons_zero, List.set_cons_succ])
                refine wpAnyH_ready (rs := [10]) (by kernel_rfl) (by simp) ?_
                refine AllReadyH.cons (o := { dst := none, op := Op.store 118 (Operand.tmp 9) (Operand.tmp 43), type := 0, pos := "l8_other.go:288", after := #[{ on := 9, ground := Ground.data }, { on := 8, ground := Ground.data }, { on := 7, ground := Ground.chain }, { on := 0, ground := Ground.phase }, { on := 1, ground := Ground.phase }, { on := 2, ground := Ground.phase }, { on := 3, ground := Ground.phase }, { on := 4, ground := Ground.phase }, { on := 5, ground := Ground.phase }, { on := 6, ground := Ground.phase }, { on := 7, ground := Ground.phase }, { on := 8, ground := Ground.phase }, { on := 9, ground := Ground.phase }], guard := none }) rfl (fun K hK => ?_) AllReadyH.nil
                go_simp
                refine hK.out _ _ (by first | exact ⟨(below_new w5.drew _).block _ hg5, (below_new w5.drew _).block _ hg6⟩ | (refine ⟨?_, ?_⟩ <;> (simp; omega))) (fun hHeld2 => ?_)
                clear hK K
                (try simp only [Act.put, List.setIfInBounds_toArray, List.set_cons_zero, List.set_cons_succ])
                refine wpAnyH_done (by kernel_rfl) ?_ _
                refine NoPanic.normal ?_
                go_wp2_with fail
                go_meet
                case rel => exact ⟨rfl, Lib.hid rfl⟩
              · go_simp
                refine hK.out _ _ (⟨(below_new w5.drew _).block _ hg5, (below_new w5.drew _).block _ hg6⟩) (fun hHeld2 => ?_)
                clear hK K
                (try simp only [Act.put, List.setIfInBounds_toArray, List.set_cons_zero, List.set_cons_succ])
                refine wpAnyH_ready (rs := [7]) (by kernel_rfl) (by simp) ?_
                refine AllReadyH.cons (o := { dst := some 42, op := Op.call { callee := Callee.value (Operand.func 81), args := #[Operand.tmp 41], argTypes := #[9] }, type := 3, pos := "l8_other.go:288", after := #[{ on := 6, ground := Ground.data }, { on := 3, ground := Ground.chain }], guard := none }) rfl (fun K hK => ?_) AllReadyH.nil
                go_simp
                (go_at_call 81; refine (HR1.out _).mono ?_; rintro e w7 ⟨rfl, rfl⟩)
                refine hK.out _ _ (⟨(below_new w5.drew _).block _ hg5, (below_new w5.drew _).block _ hg6⟩) (fun hHeld2 => ?_)
                clear hK K
                (try simp only [Act.put, List.setIfInBounds_toArray, List.set_cons_zero, List.set_cons_succ])
                refine wpAnyH_take (i := 8) (oi := { dst := some 43, op := Op.build 118 #[(0, Operand.tmp 38), (2, Operand.tmp 42)], type := 118, pos := "l8_other.go:288", after := #[{ on := 3, ground := Ground.data }, { on := 7, ground := Ground.data }], guard := none }) (v := ?_) rfl (by kernel_rfl) (by kernel_rfl) (by kernel_rfl) np_putO (Or.inl ⟨by rfl, ?_⟩) (by assumption) ?_
                rotate_left
                · (intro wS hSw; go_simp; (try with_reducible rfl))
                (try simp only [Act.put, List.setIfInBounds_toArray, List.set_cons_zero, List.set_cons_succ])
                refine wpAnyH_ready (rs := [10]) (by kernel_rfl) (by simp) ?_
                refine AllReadyH.cons (o := { dst := none, op := Op.store 118 (Operand.tmp 9) (Operand.tmp 43), type := 0, pos := "l8_other.go:288", after := #[{ on := 9, ground := Ground.data }, { on := 8, ground := Ground.data }, { on := 7, ground := Ground.chain }, { on := 0, ground := Ground.phase }, { on := 1, ground := Ground.phase }, { on := 2, ground := Ground.phase }, { on := 3, ground := Ground.phase }, { on := 4, ground := Ground.phase }, { on := 5, ground := Ground.phase }, { on := 6, ground := Ground.phase }, { on := 7, ground := Ground.phase }, { on := 8, ground := Ground.phase }, { on := 9, ground := Ground.phase }], guard := none }) rfl (fun K hK => ?_) AllReadyH.nil
                go_simp
                refine hK.out _ _ (by first | exact ⟨(below_new w5.drew _).block _ hg5, (below_new w5.drew _).block _ hg6⟩ | (refine ⟨?_, ?_⟩ <;> (simp; omega))) (fun hHeld2 => ?_)
                clear hK K
                (try simp only [Act.put, List.setIfInBounds_toArray, List.set_cons_zero, List.set_cons_succ])
                refine wpAnyH_done (by kernel_rfl) ?_ _
                refine NoPanic.normal ?_
                go_wp2_with fail
                go_meet
                case rel => exact ⟨rfl, Lib.hid rfl⟩
            · go_simp
              refine hK.out _ _ (⟨(below_new w5.drew _).block _ hg5, (below_new w5.drew _).block _ hg6⟩) (fun hHeld2 => ?_)
              clear hK K
              (try simp only [Act.put, List.setIfInBounds_toArray, List.set_cons_zero, List.set_cons_succ])
              refine wpAnyH_ready (rs := [3]) (by kernel_rfl) (by simp) ?_
              refine AllReadyH.cons (o := { dst := some 38, op := Op.call { callee := Callee.value (Operand.func 81), args := #[Operand.tmp 37], argTypes := #[9] }, type := 3, pos := "l8_other.go:288", after := #[{ on := 2, ground := Ground.data }], guard := none }) rfl (fun K hK => ?_) AllReadyH.nil
              go_simp
              (go_at_call 81; refine (HR0.out _).mono ?_; rintro e w7 ⟨rfl, rfl⟩)
              refine hK.out _ _ (⟨(below_new w5.drew _).block _ hg5, (below_new w5.drew _).block _ hg6⟩) (fun hHeld2 => ?_)
              clear hK K
              (try simp only [Act.put, List.setIfInBounds_toArray, List.set_cons_zero, List.set_cons_succ])
              refine wpAnyH_ready (rs := [7]) (by kernel_rfl) (by simp) ?_
              refine AllReadyH.cons (o := { dst := some 42, op := Op.call { callee := Callee.value (Operand.func 81), args := #[Operand.tmp 41], argTypes := #[9] }, type := 3, pos := "l8_other.go:288", after := #[{ on := 6, ground := Ground.data }, { on := 3, ground := Ground.chain }], guard := none }) rfl (fun K hK => ?_) AllReadyH.nil
              go_simp
              (go_at_call 81; refine (HR1.out _).mono ?_; rintro e w7 ⟨rfl, rfl⟩)
              refine hK.out _ _ (⟨(below_new w5.drew _).block _ hg5, (below_new w5.drew _).block _ hg6⟩) (fun hHeld2 => ?_)
              clear hK K
              (try simp only [Act.put, List.setIfInBounds_toArray, List.set_cons_zero, List.set_cons_succ])
              refine wpAnyH_take (i := 8) (oi := { dst := some 43, op := Op.build 118 #[(0, Operand.tmp 38), (2, Operand.tmp 42)], type := 118, pos := "l8_other.go:288", after := #[{ on := 3, ground := Ground.data }, { on := 7, ground := Ground.data }], guard := none }) (v := ?_) rfl (by kernel_rfl) (by kernel_rfl) (by kernel_rfl) np_putO (Or.inl ⟨by rfl, ?_⟩) (by assumption) ?_
              rotate_left
              · (intro wS hSw; go_simp; (try with_reducible rfl))
              (try simp only [Act.put, List.setIfInBounds_toArray, List.set_cons_zero, List.set_cons_succ])
              refine wpAnyH_ready (rs := [10]) (by kernel_rfl) (by simp) ?_
              refine AllReadyH.cons (o := { dst := none, op := Op.store 118 (Operand.tmp 9) (Operand.tmp 43), type := 0, pos := "l8_other.go:288", after := #[{ on := 9, ground := Ground.data }, { on := 8, ground := Ground.data }, { on := 7, ground := Ground.chain }, { on := 0, ground := Ground.phase }, { on := 1, ground := Ground.phase }, { on := 2, ground := Ground.phase }, { on := 3, ground := Ground.phase }, { on := 4, ground := Ground.phase }, { on := 5, ground := Ground.phase }, { on := 6, ground := Ground.phase }, { on := 7, ground := Ground.phase }, { on := 8, ground := Ground.phase }, { on := 9, ground := Ground.phase }], guard := none }) rfl (fun K hK => ?_) AllReadyH.nil
              go_simp
              refine hK.out _ _ (by first | exact ⟨(below_new w5.drew _).block _ hg5, (below_new w5.drew _).block _ hg6⟩ | (refine ⟨?_, ?_⟩ <;> (simp; omega))) (fun hHeld2 => ?_)
              clear hK K
              (try simp only [Act.put, List.setIfInBounds_toArray, List.set_cons_zero, List.set_cons_succ])
              refine wpAnyH_done (by kernel_rfl) ?_ _
              refine NoPanic.normal ?_
              go_wp2_with fail
              go_meet
              case rel => exact ⟨rfl, Lib.hid rfl⟩
          case rest =>
            obtain ⟨rfl, hwx⟩ := hcut
            have hwx2 := hwx.out
            subst hwx2
            clear hwx
            have HQ0 := Lib.hid (Qx.new w5.drew t 0 o 118 (b := w5.heap.size) (by simp))
            have hb6 : Below w5.heap.size w5 (w5.drew.alloc (.cells #[.int .i64 t, .int .i64 0, .int .i64 o] 118)) := (Below.refl _ w5).drew.trans ((below_new w5.drew _).mono (by simp))
            have HK6 : Hid (KpA B (w.heap.size + 1) wo (w5.drew.alloc (.cells #[.int .i64 t, .int .i64 0, .int .i64 o] 118))) := Lib.hid (HK4.out.trans (KpA.of_below hb6 hBw))
            have HBX6 := Lib.hid (HBX5.out.kept hb6)
            have HCL6 := Lib.hid (ownsRow_kept HCL.out hb6)
            obtain ⟨R, hR⟩ : ∃ R, plF t o x 41 (-20) = R := ⟨_, rfl⟩
            rw [hR] at HQX
            clear hb6 HRX HBX r0 f0 d0 d1 hQne hQne2 hg5 hg6
            generalize hw6 : w5.drew.alloc (.cells #[.int .i64 t, .int .i64 0, .int .i64 o] 118) = w6 at *
            have hQs : w5.heap.size < w6.heap.size := HQ0.out.lt
            clear hw6
            generalize hQ5 : w5.heap.size = Q at *
            have hQ6 : w5.heap.size ≤ Q := by omega
            clear hQ5
            go_upto_block 2 with fail
            go_cut [10] from 44 to 55 (fun s10 wx => KpA (Q + 1) Q w6 wx ∧ Qx wx Q t R o)
            case first =>
              clear HBX6 HCL6 HK6 HQX HTY HML0 HCL HBX5 HK4
              go_wp2_with fail
              go_loopw [10] (fun i wr => ∃ a : Int, i = .int .i64 a ∧ -20 ≤ a ∧ a ≤ 21 ∧ plF t o x (21 - a).toNat a = R ∧ KpA (Q + 1) Q w6 wr ∧ ∃ pl, Qx wr Q t pl o ∧ (a ≠ -20 → pl = a - 1)) (fun i _ => (21 - RowKit.intOf i).toNat)
              case atStart => exact ⟨-20, rfl, by omega, by omega, hR, ⟨rfl, rfl, rfl, Nat.le_refl _, fun _ _ _ => rfl⟩, 0, HQ0.out, fun h => (h rfl).elim⟩
              case round =>
                obtain ⟨a, rfl, ha1, ha2, hpl, hk, pl, hq, hp⟩ := hrel
                by_cases ha : a ≤ 20
                · have hk1 : (21 - a).toNat = (21 - (a + 1)).toNat + 1 := by omega
                  rw [hk1, plF] at hpl
                  have hws := hk.size
                  obtain ⟨c0, c1, c2, f0, f1, f2, lt⟩ := hq
                  have HQ1 := Lib.hid (Qx.set1 ⟨c0, c1, c2, f0, f1, f2, lt⟩ a)
                  have hOI : OthIn ((wr.setCell ⟨Q, 1, none⟩ (.int .i64 a)).alloc (.cells #[.int .i64 t, .int .i64 a, .int .i64 o] 118)) (.agg #[.slice (some ⟨wr.heap.size, 0, none⟩) 1 1]) [(t, a, o)] := by
                    have h := oth_one (wr.setCell ⟨Q, 1, none⟩ (.int .i64 a)) t a o 118
                    rwa [show (wr.setCell ⟨Q, 1, none⟩ (.int .i64 a)).heap.size = wr.heap.size by simp] at h
                  have HO := Lib.hid (omOne_any t a o _ _ (by unfold ptU; dsimp only; omega) hOI)
                  have HKS := Lib.hid (hk.set 1 (.int .i64 a))
                  have hbS : Below wr.heap.size (wr.setCell ⟨Q, 1, none⟩ (.int .i64 a)) ((wr.setCell ⟨Q, 1, none⟩ (.int .i64 a)).alloc (.cells #[.int .i64 t, .int .i64 a, .int .i64 o] 118)) := by
                    have h := below_new (wr.setCell ⟨Q, 1, none⟩ (.int .i64 a)) (.cells #[.int .i64 t, .int .i64 a, .int .i64 o] 118)
                    rwa [show (wr.setCell ⟨Q, 1, none⟩ (.int .i64 a)).heap.size = wr.heap.size by simp] at h
                  have HBS := Lib.hid hbS
                  have HP := Lib.hid hp
                  clear hOI hk hbS hp
                  go_wp2_with fail
                  refine HO.out.mono ?_
                  rintro e w8 ⟨rfl, hb8⟩
                  have HB8 := Lib.hid (HBS.out.trans (hb8.mono (by have := HBS.out.size; simp at this; simp)))
                  have HK8 : Hid (KpA (Q + 1) Q w6 w8) := Lib.hid (HKS.out.trans (KpA.of_belowN HB8.out (by have := HB8.out.size; exact this) (by omega)))
                  have HQ8 : Hid (Qx w8 Q t a o) := Lib.hid (HQ1.out.of (by have := HB8.out.size; simpa using this) (HB8.out.block Q lt))
                  clear hb8
                  by_cases hx : ptV t a o = x
                  · rw [if_pos hx] at hpl
                    have HPQ := Lib.hid hpl
                    clear hpl
                    have hqq : ((byt (ptV t a o)).toList == (byt x).toList) = true := by rw [hx]; simp
                    go_wp2_with fail
                    go_meet
                    case rel => rw [← HPQ.out]; exact ⟨HK8.out, HQ8.out⟩
                  · rw [if_neg hx] at hpl
                    have HPQ := Lib.hid hpl
                    clear hpl
                    have hqq : ((byt (ptV t a o)).toList == (byt x).toList) = false := str_ne (fun e => hx (byt_injO e))
                    go_wp2_with fail
                    exact ⟨⟨a + 1, by go_num, by omega, by omega, HPQ.out, HK8.out, a, HQ8.out, fun _ => by omega⟩, by simp [RowKit.intOf]; omega⟩
                · obtain rfl : a = 21 := by omega
                  have hp' := hp (by omega)
                  have hR2 : R = 20 := by rw [← hpl]; rfl
                  have HKE := Lib.hid hk
                  have HQE : Hid (Qx wr Q t R o) := Lib.hid (by rw [hR2]; rw [hp'] at hq; exact hq)
                  clear hk hq hp hp' hR2 hpl
                  go_wp2_with fail
                  go_meet
                  case rel => exact ⟨HKE.out, HQE.out⟩
            case rest =>
              obtain ⟨hkc, hqc⟩ := hcut
              have hwc := hkc.size
              have HKC : Hid (KpA B (w.heap.size + 1) w6 wc) := Lib.hid (hkc.weak (fun g h1 h2 => ⟨by omega, by omega⟩))
              have HXC : Hid (BoF wc (w.heap.size + 1) u) := Lib.hid (HBX6.out.of hwc (hkc.block _ (by omega) (by omega)))
              have HLC : Hid (PtsAt wc B u qs) := Lib.hid (rowK HCL6.out hkc (fun g hg => by have := World.ownsRow.lt HCL.out g hg; omega))
              obtain ⟨c0, c1, c2, f0, f1, f2, lt⟩ := hqc
              obtain ⟨m0, m1⟩ := HXC.out.cells
              have HML1 : Hid (qs.length + 1 ≤ maxLen) := Lib.hid (by have := HML0.out; unfold maxLen; omega)
              have hBc : B ≤ wc.heap.size := by omega
              clear hkc HBX6 HCL6 HCL HBX5 HK4 hlt
              go_wp2_with (at_builtin; refine wpList_append_own _ rfl _ _ 40 rfl B 118 i0 (.agg #[.int .i64 0, .int .i64 0, .int .i64 0]) 3 24 Tryd.underlying40 hi hi0 hi1 hi2 rfl (by decide) u _ _ rfl (HLC.out.alloc _) ⟨wc.heap.size, 0, none⟩ 1 1 [.int .i64 t, .int .i64 R, .int .i64 o] rfl rfl (fun j u hu => three_new _ _ _ _ _ rfl hu) (by simp [Value.oneCell']) HML1.out (by have := HML0.out; omega) (by simp; omega) ?_; intro v9 w9 hown9 hgrow9 _; obtain ⟨p9, d9, rfl⟩ := own_formP hown9; obtain ⟨CL9, BX9, KP9⟩ := leafO (q := (t, R, o)) HLC.out HXC.out hPB hBc (Below.refl _ _) hown9 hgrow9; clear c0 c1 c2 f0 f1 f2 m0 m1; obtain ⟨m0, m1⟩ := BX9.cells)
              exact ⟨⟨j + 1, by go_num, by omega, HTY.out, (HK.out.trans (HK6.out.trans HKC.out)).trans (KP9.set 0 _), _, BX9.set _, by rw [HQX.out]; exact CL9.set2 hPB 0 _⟩, by simp [RowKit.intOf]; omega⟩
        · have HBD := HBAD
          have HBAD := Lib.hid (HBD.out (by rw [oqO]; simp [h3]))
          have h2i : ((spl 110 x).length : Int) = 2 := by omega
          have h3i : ¬ ((spl 47 x).length : Int) = 2 := by omega
          clear hrow4 hrow5 hb4 hb5 hbo HBD
          go_wp2_with fail
          have g0 := (HRX.out.set (.slice none 0 0)).1.1
          rw [RetOq.bad HBAD.out]
          refine bodyPost_ret (v := .tuple #[.agg #[.slice none 0 0], .bool false]) (by simp [results, Tryd.f49, go_sem, g0]) rfl ⟨_, rfl, othAt_none (Nat.le_refl _), ?_⟩
          exact HBX.out.setCell (p := ⟨w.heap.size, 0, none⟩) (Nat.le_refl _) _
      · have HBD := HBAD
        have HBAD := Lib.hid (HBD.out (by rw [oqO]; simp [h2]))
        have h2i : ¬ ((spl 110 x).length : Int) = 2 := by omega
        clear hrow4 hrow5 hb4 hb5 hbo HBD
        go_wp2_with fail
        have g0 := (HRX.out.set (.slice none 0 0)).1.1
        rw [RetOq.bad HBAD.out]
        refine bodyPost_ret (v := .tuple #[.agg #[.slice none 0 0], .bool false]) (by simp [results, Tryd.f49, go_sem, g0]) rfl ⟨_, rfl, othAt_none (Nat.le_refl _), ?_⟩
        exact HBX.out.setCell (p := ⟨w.heap.size, 0, none⟩) (Nat.le_refl _) _
    · obtain rfl : j = ps.length := by omega
      have hjj : ¬ ((ps.length : Int) < (ps.length : Int)) := by omega
      rw [List.take_length] at hT hcl
      have HOK := Lib.hid hT
      have HCN := Lib.hid hcl
      have HXN := HX
      have HRN : Hid (BoF wr w.heap.size (.slice none 0 0)) := Lib.hid (HR.out.of hwr (HK.out.block _ (by omega) (by omega)))
      have HBN : Hid (Below w.heap.size w wr) := Lib.hid (HB.out.trans (HK.out.below (n := w.heap.size) (by omega) (by omega)))
      have hPR : w.heap.size + 1 ≠ w.heap.size := by omega
      have hPl := HX.out.1.2
      have hRB : w.heap.size < B := by omega
      have hpsl : ps.length ≤ 121 := by have := HPL.out; omega
      have HQL : Hid ((ps.map oqC).length ≤ 1048576) := Lib.hid (by simp; omega)
      clear hK hbx hcl hT HX HL HK hlt hj hpsl HR HB HP
      go_wp2_with fail
      obtain ⟨P, hP⟩ : ∃ P, w.heap.size + 1 = P := ⟨_, rfl⟩
      rw [hP] at HXN hPR hPl ⊢
      obtain ⟨qs, hqs⟩ : ∃ qs, ps.map oqC = qs := ⟨_, rfl⟩
      rw [hqs] at HCN HQL
      have HQS := Lib.hid hqs
      clear hP hqs hps
      obtain ⟨a5, c5, rfl⟩ := own_formP HCN.out
      have HPZ := Lib.hid (ptsO_oth HCN.out (Nat.le_refl _))
      have HG := Lib.hid (fun W (hb : Below wr.heap.size wr W) => omGood_any qs _ W HQL.out (HPZ.out.isIn.kept hb))
      have HT := Lib.hid (fun W (hb : Below wr.heap.size wr W) (hg : omB qs = true) => omText_any qs _ W hg (HPZ.out.isIn.kept hb))
      obtain ⟨k0, k1⟩ := HXN.out.cells
      generalize hpb : omB qs = pb at *
      have HPB := Lib.hid hpb
      clear hpb
      refine wp_region_noPanic ?_
      refine wp_region_held_drew (S := fun W => W.heap[P]? = wr.heap[P]?) (by kernel_rfl) rfl (fun hHeld => ?_)
      refine wpAnyH_take (i := 0) (oi := { dst := some 63, op := Op.load 42 (Operand.tmp 4), type := 42, pos := "l8_other.go:297", after := #[], guard := none }) (v := ?_) rfl (by kernel_rfl) (by kernel_rfl) (by kernel_rfl) np_putO (Or.inl ⟨by rfl, ?_⟩) (by assumption) ?_
      rotate_left
      · (intro wS hSw; have qq0 := (World.cell?_of_block (a := ⟨P, 0, none⟩) hSw).trans k0; go_simp; (try with_reducible rfl))
      (try simp only [Act.put, List.setIfInBounds_toArray, List.set_cons_zero, List.set_cons_succ])
      refine wpAnyH_take (i := 1) (oi := { dst := some 64, op := Op.load 42 (Operand.tmp 4), type := 42, pos := "l8_other.go:297", after := #[], guard := none }) (v := ?_) rfl (by kernel_rfl) (by kernel_rfl) (by kernel_rfl) np_putO (Or.inl ⟨by rfl, ?_⟩) (by assumption) ?_
      rotate_left
      · (intro wS hSw; have qq0 := (World.cell?_of_block (a := ⟨P, 0, none⟩) hSw).trans k0; go_simp; (try with_reducible rfl))
      (try simp only [Act.put, List.setIfInBounds_toArray, List.set_cons_zero, List.set_cons_succ])
      refine wpAnyH_ready (rs := [2]) (by kernel_rfl) (by simp) ?_
      refine AllReadyH.cons (o := { dst := some 65, op := Op.call { callee := Callee.value (Operand.func 89), args := #[Operand.tmp 64], argTypes := #[42] }, type := 4, pos := "l8_other.go:297", after := #[{ on := 1, ground := Ground.data }], guard := none }) rfl (fun K hK => ?_) AllReadyH.nil
      go_simp
      (go_at_call 89; refine (HG.out _ (Below.refl _ _).drew).mono ?_; rintro e w6 ⟨rfl, hb6⟩)
      have HB6 := Lib.hid ((Below.refl _ wr).drew.trans hb6)
      clear hb6
      refine hK.out _ _ (HB6.out.block P hPl) (fun hHeld2 => ?_)
      clear hK K
      (try simp only [Act.put, List.setIfInBounds_toArray, List.set_cons_zero, List.set_cons_succ])
      refine wpAnyH_take (i := 3) (oi := { dst := some 66, op := Op.move (Operand.tmp 65), type := 4, pos := "l8_other.go:297", after := #[{ on := 2, ground := Ground.data }, { on := 2, ground := Ground.chain }], guard := none }) (v := ?_) rfl (by kernel_rfl) (by kernel_rfl) (by kernel_rfl) np_putO (Or.inl ⟨by rfl, ?_⟩) (by assumption) ?_
      rotate_left
      · (intro wS hSw; go_simp; (try with_reducible rfl))
      (try simp only [Act.put, List.setIfInBounds_toArray, List.set_cons_zero, List.set_cons_succ])
      cases pb
      · have HR6 := Lib.hid (HRN.out.kept HB6.out)
        obtain ⟨r0, f0⟩ := HR6.out.cells
        refine wpAnyH_take (i := 4) (oi := { dst := some 67, op := Op.load 42 (Operand.tmp 4), type := 42, pos := "l8_other.go:297", after := #[{ on := 3, ground := Ground.guard }], guard := some (3, true) }) (v := undef) rfl (by kernel_rfl) (by kernel_rfl) (by kernel_rfl) np_putO (Or.inr ⟨by rfl, rfl⟩) (by assumption) ?_
        (try simp only [Act.put, List.setIfInBounds_toArray, List.set_cons_zero, List.set_cons_succ])
        refine wpAnyH_take (i := 5) (oi := { dst := some 68, op := Op.call { callee := Callee.value (Operand.func 88), args := #[Operand.tmp 67], argTypes := #[42] }, type := 9, pos := "l8_other.go:297", after := #[{ on := 4, ground := Ground.data }, { on := 3, ground := Ground.chain }, { on := 3, ground := Ground.guard }], guard := some (3, true) }) (v := undef) rfl (by kernel_rfl) (by kernel_rfl) (by kernel_rfl) np_putO (Or.inr ⟨by rfl, rfl⟩) (by assumption) ?_
        (try simp only [Act.put, List.setIfInBounds_toArray, List.set_cons_zero, List.set_cons_succ])
        refine wpAnyH_take (i := 6) (oi := { dst := some 69, op := Op.move (Operand.tmp 0), type := 9, pos := "l8_other.go:297", after := #[{ on := 3, ground := Ground.guard }, { on := 9, ground := Ground.gcOnly Departure.lateStores }], guard := some (3, true) }) (v := undef) rfl (by kernel_rfl) (by kernel_rfl) (by kernel_rfl) np_putO (Or.inr ⟨by rfl, rfl⟩) (by assumption) ?_
        (try simp only [Act.put, List.setIfInBounds_toArray, List.set_cons_zero, List.set_cons_succ])
        refine wpAnyH_take (i := 7) (oi := { dst := some 70, op := Op.binOp BinOp.eql 9 (Operand.tmp 68) (Operand.tmp 69) 9, type := 4, pos := "l8_other.go:297", after := #[{ on := 5, ground := Ground.data }, { on := 6, ground := Ground.data }, { on := 3, ground := Ground.guard }, { on := 9, ground := Ground.gcOnly Departure.lateStores }], guard := some (3, true) }) (v := undef) rfl (by kernel_rfl) (by kernel_rfl) (by kernel_rfl) np_putO (Or.inr ⟨by rfl, rfl⟩) (by assumption) ?_
        (try simp only [Act.put, List.setIfInBounds_toArray, List.set_cons_zero, List.set_cons_succ])
        refine wpAnyH_take (i := 8) (oi := { dst := some 71, op := Op.pick (Operand.tmp 66) (Operand.tmp 70) (Operand.const (Value.bool false)), type := 4, pos := "l8_other.go:297", after := #[{ on := 3, ground := Ground.data }, { on := 7, ground := Ground.data }, { on := 9, ground := Ground.gcOnly Departure.lateStores }], guard := none }) (v := ?_) rfl (by kernel_rfl) (by kernel_rfl) (by kernel_rfl) np_putO (Or.inl ⟨by rfl, ?_⟩) (by assumption) ?_
        rotate_left
        · (intro wS hSw; go_simp; (try with_reducible rfl))
        (try simp only [Act.put, List.setIfInBounds_toArray, List.set_cons_zero, List.set_cons_succ])
        refine wpAnyH_ready (rs := [9]) (by kernel_rfl) (by simp) ?_
        refine AllReadyH.cons (o := { dst := none, op := Op.store 42 (Operand.tmp 2) (Operand.tmp 63), type := 0, pos := "l8_other.go:297", after := #[{ on := 0, ground := Ground.data }, { on := 5, ground := Ground.chain }, { on := 0, ground := Ground.phase }, { on := 1, ground := Ground.textOnly Departure.lateStores }, { on := 2, ground := Ground.textOnly Departure.lateStoresUnsure }, { on := 3, ground := Ground.textOnly Departure.lateStores }, { on := 4, ground := Ground.textOnly Departure.lateStores }, { on := 5, ground := Ground.textOnly Departure.lateStoresUnsure }, { on := 6, ground := Ground.textOnly Departure.lateStores }, { on := 7, ground := Ground.textOnly Departure.lateStores }, { on := 8, ground := Ground.textOnly Departure.lateStores }], guard := none }) rfl (fun K hK => ?_) AllReadyH.nil
        go_simp
        refine hK.out _ _ ((setO_heap w6 w.heap.size (.slice a5 qs.length c5) hPR).trans (HB6.out.block P hPl)) (fun hHeld2 => ?_)
        clear hK K
        (try simp only [Act.put, List.setIfInBounds_toArray, List.set_cons_zero, List.set_cons_succ])
        refine wpAnyH_take (i := 10) (oi := { dst := some 3, op := Op.assign (Operand.tmp 71), type := 4, pos := "l8_other.go:297", after := #[{ on := 8, ground := Ground.data }, { on := 9, ground := Ground.chain }, { on := 0, ground := Ground.phase }, { on := 1, ground := Ground.phase }, { on := 2, ground := Ground.phase }, { on := 3, ground := Ground.phase }, { on := 4, ground := Ground.phase }, { on := 5, ground := Ground.phase }, { on := 6, ground := Ground.phase }, { on := 7, ground := Ground.phase }, { on := 8, ground := Ground.phase }, { on := 9, ground := Ground.phase }], guard := none }) (v := ?_) rfl (by kernel_rfl) (by kernel_rfl) (by kernel_rfl) np_putO (Or.inl ⟨by rfl, ?_⟩) (by assumption) ?_
        rotate_left
        · (intro wS hSw; go_simp; (try with_reducible rfl))
        (try simp only [Act.put, List.setIfInBounds_toArray, List.set_cons_zero, List.set_cons_succ])
        refine wpAnyH_done (by kernel_rfl) ?_ _
        refine NoPanic.normal ?_
        go_wp2_with fail
        rw [RetOq.ok HOK.out, HQS.out]
        (first | rw [fl_yesO HPB.out hq, HPB.out] | rw [fl_noO HPB.out hq, HPB.out] | rw [HPB.out] | skip)
        have g0 := (HR6.out.set (.slice a5 qs.length c5)).1.1
        refine bodyPost_ret (v := .tuple #[.agg #[.slice a5 qs.length c5], .bool false]) (by simp [results, Tryd.f49, go_sem, g0]) rfl ⟨_, ret_flagO (by first | rfl | simp [otX_yes HPB.out, hq] | simp), ((HPZ.out.kept HB6.out).of (w' := w6.setCell ⟨w.heap.size, 0, none⟩ (.slice a5 qs.length c5)) (by simp) (fun g h1 h2 => setO_heap _ _ _ (Nat.ne_of_gt (Nat.lt_of_lt_of_le hRB h1)))).wide (Nat.le_of_lt hRB) (by simp; exact HB6.out.size) (Nat.le_refl _), ?_⟩
        exact (HBN.out.trans (HB6.out.mono HBN.out.size)).setCell (p := ⟨w.heap.size, 0, none⟩) (Nat.le_refl _) _
      · refine wpAnyH_take (i := 4) (oi := { dst := some 67, op := Op.load 42 (Operand.tmp 4), type := 42, pos := "l8_other.go:297", after := #[{ on := 3, ground := Ground.guard }], guard := some (3, true) }) (v := ?_) rfl (by kernel_rfl) (by kernel_rfl) (by kernel_rfl) np_putO (Or.inl ⟨by rfl, ?_⟩) (by assumption) ?_
        rotate_left
        · (intro wS hSw; have qq0 := (World.cell?_of_block (a := ⟨P, 0, none⟩) hSw).trans k0; go_simp; (try with_reducible rfl))
        (try simp only [Act.put, List.setIfInBounds_toArray, List.set_cons_zero, List.set_cons_succ])
        refine wpAnyH_take (i := 6) (oi := { dst := some 69, op := Op.move (Operand.tmp 0), type := 9, pos := "l8_other.go:297", after := #[{ on := 3, ground := Ground.guard }, { on := 9, ground := Ground.gcOnly Departure.lateStores }], guard := some (3, true) }) (v := ?_) rfl (by kernel_rfl) (by kernel_rfl) (by kernel_rfl) np_putO (Or.inl ⟨by rfl, ?_⟩) (by assumption) ?_
        rotate_left
        · (intro wS hSw; go_simp; (try with_reducible rfl))
        (try simp only [Act.put, List.setIfInBounds_toArray, List.set_cons_zero, List.set_cons_succ])
        refine wpAnyH_ready (rs := [5]) (by kernel_rfl) (by simp) ?_
        refine AllReadyH.cons (o := { dst := some 68, op := Op.call { callee := Callee.value (Operand.func 88), args := #[Operand.tmp 67], argTypes := #[42] }, type := 9, pos := "l8_other.go:297", after := #[{ on := 4, ground := Ground.data }, { on := 3, ground := Ground.chain }, { on := 3, ground := Ground.guard }], guard := some (3, true) }) rfl (fun K hK => ?_) AllReadyH.nil
        go_simp
        (go_at_call 88; refine (HT.out _ HB6.out rfl).mono ?_; rintro e w7 ⟨rfl, hb7⟩)
        have HB7 := Lib.hid (HB6.out.trans (hb7.mono HB6.out.size))
        clear hb7
        have HR6 := Lib.hid (HRN.out.kept HB7.out)
        obtain ⟨r0, f0⟩ := HR6.out.cells
        refine hK.out _ _ (HB7.out.block P hPl) (fun hHeld2 => ?_)
        clear hK K
        (try simp only [Act.put, List.setIfInBounds_toArray, List.set_cons_zero, List.set_cons_succ])
        by_cases hq : byt (otT qs qs.length) = byt l
        · have hqq : ((byt (otT qs qs.length)).toList == (byt l).toList) = true := by rw [hq]; simp
          refine wpAnyH_take (i := 7) (oi := { dst := some 70, op := Op.binOp BinOp.eql 9 (Operand.tmp 68) (Operand.tmp 69) 9, type := 4, pos := "l8_other.go:297", after := #[{ on := 5, ground := Ground.data }, { on := 6, ground := Ground.data }, { on := 3, ground := Ground.guard }, { on := 9, ground := Ground.gcOnly Departure.lateStores }], guard := some (3, true) }) (v := ?_) rfl (by kernel_rfl) (by kernel_rfl) (by kernel_rfl) np_putO (Or.inl ⟨by rfl, ?_⟩) (by assumption) ?_
          rotate_left
          · (intro wS hSw; go_simp; (try with_reducible rfl))
          (try simp only [Act.put, List.setIfInBounds_toArray, List.set_cons_zero, List.set_cons_succ])
          refine wpAnyH_take (i := 8) (oi := { dst := some 71, op := Op.pick (Operand.tmp 66) (Operand.tmp 70) (Operand.const (Value.bool false)), type := 4, pos := "l8_other.go:297", after := #[{ on := 3, ground := Ground.data }, { on := 7, ground := Ground.data }, { on := 9, ground := Ground.gcOnly Departure.lateStores }], guard := none }) (v := ?_) rfl (by kernel_rfl) (by kernel_rfl) (by kernel_rfl) np_putO (Or.inl ⟨by rfl, ?_⟩) (by assumption) ?_
          rotate_left
          · (intro wS hSw; go_simp; (try with_reducible rfl))
          (try simp only [Act.put, List.setIfInBounds_toArray, List.set_cons_zero, List.set_cons_succ])
          refine wpAnyH_ready (rs := [9]) (by kernel_rfl) (by simp) ?_
          refine AllReadyH.cons (o := { dst := none, op := Op.store 42 (Operand.tmp 2) (Operand.tmp 63), type := 0, pos := "l8_other.go:297", after := #[{ on := 0, ground := Ground.data }, { on := 5, ground := Ground.chain }, { on := 0, ground := Ground.phase }, { on := 1, ground := Ground.textOnly Departure.lateStores }, { on := 2, ground := Ground.textOnly Departure.lateStoresUnsure }, { on := 3, ground := Ground.textOnly Departure.lateStores }, { on := 4, ground := Ground.textOnly Departure.lateStores }, { on := 5, ground := Ground.textOnly Departure.lateStoresUnsure }, { on := 6, ground := Ground.textOnly Departure.lateStores }, { on := 7, ground := Ground.textOnly Departure.lateStores }, { on := 8, ground := Ground.textOnly Departure.lateStores }], guard := none }) rfl (fun K hK => ?_) AllReadyH.nil
          go_simp
          refine hK.out _ _ ((setO_heap w7 w.heap.size (.slice a5 qs.length c5) hPR).trans (HB7.out.block P hPl)) (fun hHeld2 => ?_)
          clear hK K
          (try simp only [Act.put, List.setIfInBounds_toArray, List.set_cons_zero, List.set_cons_succ])
          refine wpAnyH_take (i := 10) (oi := { dst := some 3, op := Op.assign (Operand.tmp 71), type := 4, pos := "l8_other.go:297", after := #[{ on := 8, ground := Ground.data }, { on := 9, ground := Ground.chain }, { on := 0, ground := Ground.phase }, { on := 1, ground := Ground.phase }, { on := 2, ground := Ground.phase }, { on := 3, ground := Ground.phase }, { on := 4, ground := Ground.phase }, { on := 5, ground := Ground.phase }, { on := 6, ground := Ground.phase }, { on := 7, ground := Ground.phase }, { on := 8, ground := Ground.phase }, { on := 9, ground := Ground.phase }], guard := none }) (v := ?_) rfl (by kernel_rfl) (by kernel_rfl) (by kernel_rfl) np_putO (Or.inl ⟨by rfl, ?_⟩) (by assumption) ?_
          rotate_left
          · (intro wS hSw; go_simp; (try with_reducible rfl))
          (try simp only [Act.put, List.setIfInBounds_toArray, List.set_cons_zero, List.set_cons_succ])
          refine wpAnyH_done (by kernel_rfl) ?_ _
          refine NoPanic.normal ?_
          go_wp2_with fail
          rw [RetOq.ok HOK.out, HQS.out]
          (first | rw [fl_yesO HPB.out hq, HPB.out] | rw [fl_noO HPB.out hq, HPB.out] | rw [HPB.out] | skip)
          have g0 := (HR6.out.set (.slice a5 qs.length c5)).1.1
          refine bodyPost_ret (v := .tuple #[.agg #[.slice a5 qs.length c5], .bool true]) (by simp [results, Tryd.f49, go_sem, g0]) rfl ⟨_, ret_flagO (by first | rfl | simp [otX_yes HPB.out, hq] | simp), ((HPZ.out.kept HB7.out).of (w' := w7.setCell ⟨w.heap.size, 0, none⟩ (.slice a5 qs.length c5)) (by simp) (fun g h1 h2 => setO_heap _ _ _ (Nat.ne_of_gt (Nat.lt_of_lt_of_le hRB h1)))).wide (Nat.le_of_lt hRB) (by simp; exact HB7.out.size) (Nat.le_refl _), ?_⟩
          exact (HBN.out.trans (HB7.out.mono HBN.out.size)).setCell (p := ⟨w.heap.size, 0, none⟩) (Nat.le_refl _) _
        · have hqq : ((byt (otT qs qs.length)).toList == (byt l).toList) = false := str_ne hq
          refine wpAnyH_take (i := 7) (oi := { dst := some 70, op := Op.binOp BinOp.eql 9 (Operand.tmp 68) (Operand.tmp 69) 9, type := 4, pos := "l8_other.go:297", after := #[{ on := 5, ground := Ground.data }, { on := 6, ground := Ground.data }, { on := 3, ground := Ground.guard }, { on := 9, ground := Ground.gcOnly Departure.lateStores }], guard := some (3, true) }) (v := ?_) rfl (by kernel_rfl) (by kernel_rfl) (by kernel_rfl) np_putO (Or.inl ⟨by rfl, ?_⟩) (by assumption) ?_
          rotate_left
          · (intro wS hSw; go_simp; (try with_reducible rfl))
          (try simp only [Act.put, List.setIfInBounds_toArray, List.set_cons_zero, List.set_cons_succ])
          refine wpAnyH_take (i := 8) (oi := { dst := some 71, op := Op.pick (Operand.tmp 66) (Operand.tmp 70) (Operand.const (Value.bool false)), type := 4, pos := "l8_other.go:297", after := #[{ on := 3, ground := Ground.data }, { on := 7, ground := Ground.data }, { on := 9, ground := Ground.gcOnly Departure.lateStores }], guard := none }) (v := ?_) rfl (by kernel_rfl) (by kernel_rfl) (by kernel_rfl) np_putO (Or.inl ⟨by rfl, ?_⟩) (by assumption) ?_
          rotate_left
          · (intro wS hSw; go_simp; (try with_reducible rfl))
          (try simp only [Act.put, List.setIfInBounds_toArray, List.set_cons_zero, List.set_cons_succ])
          refine wpAnyH_ready (rs := [9]) (by kernel_rfl) (by simp) ?_
          refine AllReadyH.cons (o := { dst := none, op := Op.store 42 (Operand.tmp 2) (Operand.tmp 63), type := 0, pos := "l8_other.go:297", after := #[{ on := 0, ground := Ground.data }, { on := 5, ground := Ground.chain }, { on := 0, ground := Ground.phase }, { on := 1, ground := Ground.textOnly Departure.lateStores }, { on := 2, ground := Ground.textOnly Departure.lateStoresUnsure }, { on := 3, ground := Ground.textOnly Departure.lateStores }, { on := 4, ground := Ground.textOnly Departure.lateStores }, { on := 5, ground := Ground.textOnly Departure.lateStoresUnsure }, { on := 6, ground := Ground.textOnly Departure.lateStores }, { on := 7, ground := Ground.textOnly Departure.lateStores }, { on := 8, ground := Ground.textOnly Departure.lateStores }], guard := none }) rfl (fun K hK => ?_) AllReadyH.nil
          go_simp
          refine hK.out _ _ ((setO_heap w7 w.heap.size (.slice a5 qs.length c5) hPR).trans (HB7.out.block P hPl)) (fun hHeld2 => ?_)
          clear hK K
          (try simp only [Act.put, List.setIfInBounds_toArray, List.set_cons_zero, List.set_cons_succ])
          refine wpAnyH_take (i := 10) (oi := { dst := some 3, op := Op.assign (Operand.tmp 71), type := 4, pos := "l8_other.go:297", after := #[{ on := 8, ground := Ground.data }, { on := 9, ground := Ground.chain }, { on := 0, ground := Ground.phase }, { on := 1, ground := Ground.phase }, { on := 2, ground := Ground.phase }, { on := 3, ground := Ground.phase }, { on := 4, ground := Ground.phase }, { on := 5, ground := Ground.phase }, { on := 6, ground := Ground.phase }, { on := 7, ground := Ground.phase }, { on := 8, ground := Ground.phase }, { on := 9, ground := Ground.phase }], guard := none }) (v := ?_) rfl (by kernel_rfl) (by kernel_rfl) (by kernel_rfl) np_putO (Or.inl ⟨by rfl, ?_⟩) (by assumption) ?_
          rotate_left
          · (intro wS hSw; go_simp; (try with_reducible rfl))
          (try simp only [Act.put, List.setIfInBounds_toArray, List.set_cons_zero, List.set_cons_succ])
          refine wpAnyH_done (by kernel_rfl) ?_ _
          refine NoPanic.normal ?_
          go_wp2_with fail
          rw [RetOq.ok HOK.out, HQS.out]
          (first | rw [fl_yesO HPB.out hq, HPB.out] | rw [fl_noO HPB.out hq, HPB.out] | rw [HPB.out] | skip)
          have g0 := (HR6.out.set (.slice a5 qs.length c5)).1.1
          refine bodyPost_ret (v := .tuple #[.agg #[.slice a5 qs.length c5], .bool false]) (by simp [results, Tryd.f49, go_sem, g0]) rfl ⟨_, ret_flagO (by first | rfl | simp [otX_yes HPB.out, hq] | simp), ((HPZ.out.kept HB7.out).of (w' := w7.setCell ⟨w.heap.size, 0, none⟩ (.slice a5 qs.length c5)) (by simp) (fun g h1 h2 => setO_heap _ _ _ (Nat.ne_of_gt (Nat.lt_of_lt_of_le hRB h1)))).wide (Nat.le_of_lt hRB) (by simp; exact HB7.out.size) (Nat.le_refl _), ?_⟩
          exact (HBN.out.trans (HB7.out.mono HBN.out.size)).setCell (p := ⟨w.heap.size, 0, none⟩) (Nat.le_refl _) _
end Go.Proofs.YtgobjobppajkbaaDoor
