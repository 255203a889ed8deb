/-
  'MachineText' of both.
-/
import Derived.Test.YtgobjobppajkbaaDoorMtS
import Derived.Test.YtgobjobppajkbaaDoorShelf
import Derived.Deep.RegionLaw
import Derived.Outline
namespace Go.Proofs.YtgobjobppajkbaaDoor
open Go.RowKit
set_option linter.unusedVariables false

/-- What MachineText tells. -/
def mtX (ns ds : List Int) : ByteArray := if maB ns ds = true then (if ns = [] then byt [45] else byt (mcT ns ds ns.length)) else byt []
theorem mtX_no {ns ds : List Int} (h : maB ns ds = false) : mtX ns ds = byt [] := by rw [mtX, if_neg (by rw [h]; simp)]
theorem mtX_nil {ns ds : List Int} (h : maB ns ds = true) (e : ns = []) : mtX ns ds = byt [45] := by rw [mtX, if_pos h, if_pos e]
theorem mtX_yes {ns ds : List Int} (h : maB ns ds = true) (e : ns ≠ []) : mtX ns ds = byt (mcT ns ds ns.length) := by rw [mtX, if_pos h, if_neg e]
theorem ret_tb {x x' : ByteArray} {y y' : Bool} (h : x = x') (h' : y = y') : Ending.returned (.tuple #[.string x, .bool y]) = .returned (.tuple #[.string x', .bool y']) := by rw [h, h']

theorem itoa_int (x : Int) (hx : 0 ≤ x ∧ x ≤ 100000) (w : World) (htab : Tab w) :
    Calls Tryd.prog 87 #[.int .i64 x] w fun e w' => e = .returned (.string (byt (dgT x))) ∧ Below w.heap.size w w' := by
  refine (Tryd.strconv_Itoa x (by omega) (by omega) w htab).mono ?_
  rintro e w' ⟨rfl, k, os, rfl⟩
  exact ⟨ret_byt (by rw [Lib.itoa, if_neg (by omega)]; rfl), below_one k os⟩
theorem infoStr : (Tryd.prog.info? 9).map (fun i => (i.zero, i.size, i.bytes)) = some (some (.string ⟨#[]⟩), 1, 16) := by kernel_rfl

set_option maxRecDepth 100000 in
set_option maxHeartbeats 4000000 in
theorem iMachineText (ns ds : List Int) (v : Value) (w : World) (l1 : ns.length ≤ 1048576) (l2 : ds.length ≤ 1048576) (htab : Tab w) (h : MacIn w v ns ds) :
    Calls Tryd.prog 48 #[v] w fun e w' => e = .returned (.tuple #[.string (mtX ns ds), .bool (maB ns ds)]) ∧ Below w.heap.size w w' := by
  have HT := Lib.hid htab
  clear htab
  obtain ⟨v1, v2, rfl, i1, i2⟩ := h
  have B := Lib.hid (Bx.new w v1 v2 34)
  have M := Lib.hid ((MacIn.agg i1 i2).kept (below_alloc w (.cells #[v1, v2] 34)))
  have HB := Lib.hid (below_alloc w (.cells #[v1, v2] 34))
  have HG := Lib.hid (fun W hm => isMachine_any ns ds (.agg #[v1, v2]) W l1 l2 hm)
  rcases hg : maB ns ds with _ | _
  · have HE := Lib.hid (mtX_no hg)
    rw [hg] at HG
    clear hg i1 i2
    go_enter Tryd.func48, Tryd.ntmps48
    go_wp2_with fail
    refine (HG.out _ M.out).mono ?_
    rintro e w1 ⟨rfl, hb1⟩
    replace HB := Lib.hid (HB.out.trans (hb1.mono HB.out.size))
    clear hb1
    go_wp2_with fail
    go_ret2
    exact ⟨ret_tb HE.out.symm rfl, HB.out⟩
  obtain ⟨hl, h12, hns, hds⟩ := maB_parts hg
  by_cases hne : ns = []
  · have HE := Lib.hid (mtX_nil hg hne)
    rw [hg] at HG
    subst hne
    obtain ⟨a1, c1, rfl⟩ := i1.form
    clear hg i1 i2 hns hds hl h12
    go_enter Tryd.func48, Tryd.ntmps48
    go_wp2_with fail
    refine (HG.out _ M.out).mono ?_
    rintro e w1 ⟨rfl, hb1⟩
    replace B := Lib.hid (B.out.kept hb1)
    replace HB := Lib.hid (HB.out.trans (hb1.mono HB.out.size))
    clear hb1
    obtain ⟨p0, p1, p2⟩ := B.out
    go_wp2_with fail
    go_ret2
    exact ⟨ret_tb HE.out.symm rfl, HB.out⟩
  have HE := Lib.hid (mtX_yes hg hne)
  have HML := Lib.hid (mcT_len (K := ns.length) (fun i hi => (hns i hi).2) (fun i hi => (hds i (by omega)).2))
  have HFR : Hid (∀ i, i < ns.length → (frT ns ds i).length ≤ 13) := Lib.hid (fun i hi => frT_len (hns i hi).2 (hds i hi).2)
  rw [hg] at HG
  obtain ⟨a1, c1, rfl, x1⟩ := i1.rd
  obtain ⟨a2, c2, rfl, x2⟩ := i2.rd
  obtain ⟨K, hK⟩ : ∃ K, ns.length = K := ⟨_, rfl⟩
  have hK0 : K ≠ 0 := fun e => hne (List.eq_nil_of_length_eq_zero (by omega))
  rw [hK] at hl h12 hns hds x1 HML HE B M HB HG HFR ⊢
  rw [← hl] at x2 B M HB HG ⊢
  have HX1 := Lib.hid x1
  have HX2 := Lib.hid x2
  have HNS := Lib.hid hns
  have HDS := Lib.hid hds
  have hK2 : (K : Int) ≤ 12 := by omega
  have hK3 : ¬ (K : Int) = 0 := by omega
  obtain ⟨i0, hi, hi0, hi1, hi2⟩ := info_parts infoStr
  clear hg hne hns hds x1 x2 i1 i2 hl hK l1 l2
  go_enter Tryd.func48, Tryd.ntmps48
  go_wp2_with fail
  refine (HG.out _ M.out).mono ?_
  rintro e w1 ⟨rfl, hb1⟩
  replace B := Lib.hid (B.out.kept hb1)
  replace HB := Lib.hid (HB.out.trans (hb1.mono HB.out.size))
  clear hb1 M HG
  obtain ⟨p0, p1, p2⟩ := B.out
  go_wp2_with (at_make; refine wpList_make_full _ rfl _ _ 91 rfl w1.heap.size 9 i0 (.string ⟨#[]⟩) 1 Tryd.underlying91 hi hi0 hi1 .i64 .i64 K K K rfl rfl rfl rfl ?c1 ?c2 ?c3 ?_; rotate_right; intro w3 hown3 hgrow3; have HB3 : Hid (Below w1.heap.size w1 w3) := Lib.hid ((Below.refl _ w1).grown hgrow3 (Nat.le_refl _) (fun k e => by simp at e)); have B3 := Lib.hid (B.out.kept HB3.out); obtain ⟨y0, y1, y2⟩ := B3.out; have HO3 := Lib.hid hown3; clear hown3 hgrow3)
  case c1 => rw [hi2]; omega
  case c2 => unfold maxLen; omega
  case c3 => simp
  have HW3 := Lib.hid (HB.out.trans (HB3.out.mono HB.out.size))
  clear p0 p1 y0 y1 y2
  have hw1 : w.heap.size < w1.heap.size := B.out.2.2
  go_loopw [21] (fun i wr => ∃ (j : Nat) (vs : List Value), j ≤ K ∧ i = .int .i64 j ∧ wr.ownsRow w1.heap.size 9 1 (.slice (some ⟨w1.heap.size, 0, none⟩) K K) K vs ∧ (∀ i, i < j → vs[i]? = some (.string (byt (frT ns ds i)))) ∧ Bx wr w.heap.size (.slice a1 K c1) (.slice a2 K c2) ∧ Below w.heap.size w wr) (fun i _ => K - (RowKit.intOf i).toNat)
  case atStart => exact ⟨0, _, Nat.zero_le _, rfl, HO3.out, fun i hi => by omega, B3.out, HW3.out⟩
  case round =>
    obtain ⟨j, vs, hj, rfl, hown, hrows, hA, hb⟩ := hrel
    have HO := Lib.hid hown
    have HR := Lib.hid hrows
    have HAR := Lib.hid hA
    have HBR := Lib.hid hb
    have HVL : Hid (vs.length = K) := Lib.hid (by have := hown.1; omega)
    clear hrows HO3 B3 HW3 HB3
    by_cases hlt : j < K
    · obtain ⟨g1, rfl, k1, q1⟩ := HX1.out j hlt
      obtain ⟨g2, rfl, k2, q2⟩ := HX2.out j hlt
      have hx := HNS.out j hlt
      have hy := HDS.out j hlt
      replace q1 := (hb.cell (p := ⟨g1, j, none⟩) k1).trans q1
      replace q2 := (hb.cell (p := ⟨g2, j, none⟩) k2).trans q2
      have hg2 := Nat.lt_of_lt_of_le k2 hb.size
      have hlt2 : (j : Int) < (K : Int) := by omega
      have hj0 : (0 : Int) ≤ (j : Int) := by omega
      have HFJ : Hid (frT ns ds j = dgT (ns.getD j 0) ++ [47] ++ dgT (ds.getD j 0)) := Lib.hid rfl
      have hd1 := dgT_len hx.2
      have hd2 := dgT_len hy.2
      generalize ns.getD j 0 = x at *
      generalize ds.getD j 0 = y at *
      have HXB : Hid (0 ≤ x ∧ x ≤ 100000) := Lib.hid (by omega)
      have HYB : Hid (0 ≤ y ∧ y ≤ 100000) := Lib.hid (by omega)
      have HC := Lib.hid (fun x hx W (hbW : Below wr.heap.size wr W) => itoa_int x hx W (tab_below HT.out (hb.trans (hbW.mono hb.size))))
      have hadd1 : ∀ w, (Op.stringOp .add (byt (dgT x)) ⟨#[47]⟩).run Tryd.prog w = .ok (.string (byt (dgT x ++ [47]))) w := fun w => byt_add _ [47] (by simp; omega) w
      have hadd2 : ∀ w, (Op.stringOp .add (byt (dgT x ++ [47])) (byt (dgT y))).run Tryd.prog w = .ok (.string (byt (dgT x ++ [47] ++ dgT y))) w := fun w => byt_add _ _ (by simp; omega) w
      generalize dgT x ++ [47] ++ dgT y = FR at *
      generalize hDX : dgT x ++ [47] = DX at *
      have qc : ∃ uu, wr.cell? ⟨w1.heap.size, j, none⟩ = some uu := ⟨vs[j]'(by have := HVL.out; omega), by
        rw [World.ownsRow.cellAt hown j (by omega)]; exact List.getElem?_eq_getElem _⟩
      obtain ⟨uu, qc⟩ := qc
      have qf : wr.frozen? ⟨w1.heap.size, j, none⟩ = false := World.ownsRow.frozenAt hown j
      have hRs : w1.heap.size < wr.heap.size := (World.ownsRow.lt hown w1.heap.size rfl).2
      obtain ⟨A0, A1, A2⟩ := hA
      clear hx hy hd1 hd2 hDX hb hown k1 k2 hK3
      go_upto_region 9 with fail
      go_region_law (go_simp; go_at_call 87; refine (HC.out _ (by first | exact HXB.out | exact HYB.out) _ (by first | exact Below.refl _ _ | exact (Below.refl _ _).drew | exact (Below.refl _ _).drew.drew | exact HB4.out | exact HB4.out.drew | exact HB4.out.drew.drew)).mono ?_; rintro e w4 ⟨rfl, hb4⟩; first | (have HB5 : Hid (Below wr.heap.size wr w4) := Lib.hid (HB4.out.trans (by first | exact hb4.mono HB4.out.size | exact ((Below.refl _ _).drew.trans hb4).mono HB4.out.size | exact ((Below.refl _ _).drew.drew.trans hb4).mono HB4.out.size)); clear hb4; have A0' := (HB5.out.cell (p := ⟨w.heap.size, 0, none⟩) A2).trans A0; have A1' := (HB5.out.cell (p := ⟨w.heap.size, 1, none⟩) A2).trans A1; have q2' := (HB5.out.cell (p := ⟨g2, j, none⟩) hg2).trans q2; have qc' := (HB5.out.cell (p := ⟨w1.heap.size, j, none⟩) hRs).trans qc; have qf' := (HB5.out.frozen (p := ⟨w1.heap.size, j, none⟩) hRs).trans qf; have A2' := Nat.lt_of_lt_of_le A2 HB5.out.size; have hg2' := Nat.lt_of_lt_of_le hg2 HB5.out.size; have hRs' := Nat.lt_of_lt_of_le hRs HB5.out.size) | (have HB4 : Hid (Below wr.heap.size wr w4) := Lib.hid (by first | exact hb4 | exact (Below.refl _ _).drew.trans hb4 | exact (Below.refl _ _).drew.drew.trans hb4); clear hb4; have A0' := (HB4.out.cell (p := ⟨w.heap.size, 0, none⟩) A2).trans A0; have A1' := (HB4.out.cell (p := ⟨w.heap.size, 1, none⟩) A2).trans A1; have q2' := (HB4.out.cell (p := ⟨g2, j, none⟩) hg2).trans q2; have qc' := (HB4.out.cell (p := ⟨w1.heap.size, j, none⟩) hRs).trans qc; have qf' := (HB4.out.frozen (p := ⟨w1.heap.size, j, none⟩) hRs).trans qf; have A2' := Nat.lt_of_lt_of_le A2 HB4.out.size; have hg2' := Nat.lt_of_lt_of_le hg2 HB4.out.size; have hRs' := Nat.lt_of_lt_of_le hRs HB4.out.size))
      all_goals
        have hst := World.ownsRow.stored (ownsRow_kept HO.out HB5.out) j (.string (byt FR))
        have HST := Lib.hid hst.1
        have HRN : Hid (∀ i, i < j + 1 → (vs.set j (.string (byt FR)))[i]? = some (.string (byt (frT ns ds i)))) := Lib.hid (fun i hi => by
          by_cases hij : i = j
          · subst hij
            rw [HFJ.out, List.getElem?_set]
            simp [HVL.out, hlt]
          · rw [List.getElem?_set, if_neg (fun h => hij h.symm)]
            exact HR.out i (by omega))
        have HAN := Lib.hid ((HAR.out.kept HB5.out).of (w' := w4.setCell ⟨w1.heap.size, j, none⟩ (.string (byt FR))) (by simp) (Below.heap_setCell _ _ _ _ (by simp; omega)))
        have HBN := Lib.hid ((HBR.out.trans (HB5.out.mono HBR.out.size)).setCell (p := ⟨w1.heap.size, j, none⟩) (by simp; omega) (.string (byt FR)))
        clear hst
        go_wp2_with fail
        exact ⟨⟨j + 1, _, hlt, by go_num, HST.out, HRN.out, HAN.out, HBN.out⟩, by simp [RowKit.intOf]; omega⟩
    · obtain rfl : j = K := by omega
      have hlt2 : ¬ ((j : Int) < (j : Int)) := by omega
      have HJ := Lib.hid (Tryd.strings_Join w1.heap.size 0 j ((List.range j).map fun i => byt (frT ns ds i)) ⟨#[44]⟩ wr (fun i x hx => by
          have hi : i < j := by have := (List.getElem?_eq_some_iff.1 hx).1; simpa using this
          rw [World.ownsRow.cellAt HO.out (0 + i) (by omega), Nat.zero_add, HR.out i hi]
          simp [hi] at hx
          rw [hx]) (World.ownsRow.lt HO.out w1.heap.size rfl).2 (by simp; omega) (by simp) (by
          have := HML.out j (Nat.le_refl _)
          have e : Lib.join (((List.range j).map fun i => byt (frT ns ds i)).map (·.data.toList)) [44] = mcT ns ds j := by
            unfold mcT
            rw [List.map_map]
            rfl
          rw [show (⟨#[44]⟩ : ByteArray).data.toList = [44] from rfl, e]
          omega))
      rw [show ((List.range j).map fun i => byt (frT ns ds i)).length = j by simp] at HJ
      clear hb hown hA
      go_wp2_with fail
      refine HJ.out.mono ?_
      rintro e w4 ⟨rfl, hb4⟩
      go_wp2_with fail
      go_ret2
      refine ⟨ret_tb ?_ rfl, HBR.out.trans (hb4.mono HBR.out.size)⟩
      rw [HE.out]
      exact congrArg byt (show Lib.join (List.map ((fun x : ByteArray => x.data.toList) ∘ fun i => byt (frT ns ds i)) (List.range j)) [44] = mcT ns ds j from rfl)
end Go.Proofs.YtgobjobppajkbaaDoor
