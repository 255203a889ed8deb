/-
  'rowOf' of the program, the test of 'FallenResidues', 'sieve[kin]' (gen_fr.py).
-/
import Derived.Test.YtgobjobppajkbaaDoorFrM
import Derived.Test.YtgobjobppajkbaaDoorKr
import Derived.Test.YtgobjobppajkbaaDoorFb
import Derived.Test.YtgobjobppajkbaaDoorKin
import Derived.Test.YtgobjobppajkbaaDoorWordJ
import Derived.Shelf.Abstract
namespace Go.Proofs.YtgobjobppajkbaaDoor
open Go.RowKit Go.Shelf
set_option linter.unusedVariables false

/-- A box of a part that may be written. -/
structure Kx (w : World) (b : Nat) (t p o : Int) : Prop where
  c0 : w.cell? ⟨b, 0, none⟩ = some (.int .i64 t)
  c1 : w.cell? ⟨b, 1, none⟩ = some (.int .i64 p)
  c2 : w.cell? ⟨b, 2, none⟩ = some (.int .i64 o)
  f0 : w.frozen? ⟨b, 0, none⟩ = false
  f1 : w.frozen? ⟨b, 1, none⟩ = false
  f2 : w.frozen? ⟨b, 2, none⟩ = false
  lt : b < w.heap.size
theorem Kx.of {w w' : World} {b : Nat} {t p o : Int} (h : Kx w b t p o) (hs : w.heap.size ≤ w'.heap.size) (he : w'.heap[b]? = w.heap[b]?) : Kx w' b t p o :=
  ⟨(World.cell?_of_block (a := ⟨b, _, none⟩) he).trans h.c0, (World.cell?_of_block (a := ⟨b, _, none⟩) he).trans h.c1, (World.cell?_of_block (a := ⟨b, _, none⟩) he).trans h.c2, (World.frozen?_of_block (a := ⟨b, _, none⟩) he).trans h.f0, (World.frozen?_of_block (a := ⟨b, _, none⟩) he).trans h.f1, (World.frozen?_of_block (a := ⟨b, _, none⟩) he).trans h.f2, Nat.lt_of_lt_of_le h.lt hs⟩
theorem Kx.kept {w w' : World} {b : Nat} {t p o : Int} (h : Kx w b t p o) (hb : Below w.heap.size w w') : Kx w' b t p o := h.of hb.size (hb.block b h.lt)
theorem Kx.new (w : World) (t p o : Int) (T : TypeId) {b : Nat} (hb : w.heap.size = b) : Kx (w.alloc (.cells #[.int .i64 t, .int .i64 p, .int .i64 o] T)) b t p o := by
  subst hb
  exact ⟨by go_simp, by go_simp, by go_simp, by go_simp, by go_simp, by go_simp, by simp⟩
theorem Kx.put {w : World} {b : Nat} {t p o : Int} (h : Kx w b t p o) (x y z : Int) : Kx (((w.setCell ⟨b, 0, none⟩ (.int .i64 x)).setCell ⟨b, 1, none⟩ (.int .i64 y)).setCell ⟨b, 2, none⟩ (.int .i64 z)) b x y z := by
  refine ⟨?_, ?_, ?_, by rw [World.frozen?_setCell, World.frozen?_setCell, World.frozen?_setCell]; exact h.f0, by rw [World.frozen?_setCell, World.frozen?_setCell, World.frozen?_setCell]; exact h.f1, by rw [World.frozen?_setCell, World.frozen?_setCell, World.frozen?_setCell]; exact h.f2, by simpa using h.lt⟩
  · exact (World.cell?_setCell_other _ _ _ _ (by simp)).trans ((World.cell?_setCell_other _ _ _ _ (by simp)).trans (World.cell?_setCell_same' _ _ _ (by rw [h.c0]; rfl)))
  · refine (World.cell?_setCell_other _ _ _ _ (by simp)).trans (World.cell?_setCell_same' _ _ _ ?_)
    rw [World.cell?_setCell_other _ _ _ _ (by simp), h.c1]; rfl
  · refine World.cell?_setCell_same' _ _ _ ?_
    rw [World.cell?_setCell_other _ _ _ _ (by simp), World.cell?_setCell_other _ _ _ _ (by simp), h.c2]; rfl
theorem wbyF_size (l : List UInt8) : (wby l).size = l.length := by show l.toArray.size = _; simp
theorem ret_kin3 {x y : Z3} (h : x = y) : Ending.returned (.agg #[.int .i64 x.1, .int .i64 x.2.1, .int .i64 x.2.2]) = .returned (.agg #[.int .i64 y.1, .int .i64 y.2.1, .int .i64 y.2.2]) := by rw [h]
theorem map_two (w : World) (t p : Int) : (w.alloc (.cells #[.int .i64 t, .int .i64 p] 27)).cell? ⟨w.heap.size, 0, none⟩ = some (.int .i64 t) ∧ (w.alloc (.cells #[.int .i64 t, .int .i64 p] 27)).cell? ⟨w.heap.size, 1, none⟩ = some (.int .i64 p) := ⟨by go_simp, by go_simp⟩

set_option maxRecDepth 100000 in
set_option maxHeartbeats 2000000 in
theorem rowOf_any (t p : Int) (r K : Nat) (w : World) (htab : Tab w) (hg : goodB t p = true) (hK0 : 1 ≤ K) (hK : K ≤ 12) (hr : r < 2 ^ K) :
    Calls Tryd.prog 39 #[.agg #[.int .i64 t, .int .i64 p], .int .i64 (r : Int), .int .i64 (K : Int)] w fun e w' => e = .returned (.agg #[.int .i64 (frK t p K r).1, .int .i64 (frK t p K r).2.1, .int .i64 (frK t p K r).2.2]) ∧ Below w.heap.size w w' := by
  have hp4 := pow2F hK
  have hri : (r : Int) < 2 ^ K := by exact_mod_cast hr
  have HF := Lib.hid (fun W => fallOf_any t p r K W hg (by omega) (by omega) (by omega))
  have HT := Lib.hid htab
  have hask : askR t p r K = true := askR_iff.2 ⟨hg, ⟨by omega, by omega⟩, by omega, by simpa using hri⟩
  have HW := Lib.hid (fun W hT => iWordOfResidue_yes t p r K W hT hask)
  have hwb : wordB (wby (wrd t p r K)) = true := wordB_iff.2 ⟨by rw [wbyF_size, wrd_length]; omega, signs_wrd t p r K⟩
  have hkn : knW t p (wby (wrd t p r K)) = ((r : Int), (lin t p (wrd t p r K) K).1, (lin t p (wrd t p r K) K).2.1) := by
    rw [knW, if_pos (askW_iff.2 ⟨hg, hwb⟩)]
    have e : (wby (wrd t p r K)).size = K := by rw [wbyF_size, wrd_length]
    rw [e, show (wby (wrd t p r K)).data.toList = wrd t p r K from rfl, lin_res hg hri]
  have HKN := Lib.hid (fun W hT => kinOf_any t p (wby (wrd t p r K)) W hT)
  rw [hkn] at HKN
  have HB := Lib.hid ((below_new w (.cells #[.int .i64 t, .int .i64 p] 27)).trans ((below_new (w.alloc (.cells #[.int .i64 t, .int .i64 p] 27)) (.cells #[.int .i64 0, .int .i64 0, .int .i64 0] 72)).mono (by simp)))
  have HR := Lib.hid (Kx.new (w.alloc (.cells #[.int .i64 t, .int .i64 p] 27)) 0 0 0 72 (b := w.heap.size + 1) (by simp))
  obtain ⟨q0, q1⟩ := map_two w t p
  have hm0 := ((below_new (w.alloc (.cells #[.int .i64 t, .int .i64 p] 27)) (.cells #[.int .i64 0, .int .i64 0, .int .i64 0] 72)).cell (p := ⟨w.heap.size, 0, none⟩) (by simp)).trans q0
  have hm1 := ((below_new (w.alloc (.cells #[.int .i64 t, .int .i64 p] 27)) (.cells #[.int .i64 0, .int .i64 0, .int .i64 0] 72)).cell (p := ⟨w.heap.size, 1, none⟩) (by simp)).trans q1
  have HM := Lib.hid (And.intro hm0 hm1)
  clear q0 q1 hm0 hm1 htab hkn hwb hask
  by_cases hf : fa t p r K = K
  · have HE := Lib.hid (frK_yes hf)
    rw [hf] at HF
    have hne : ¬ ((K : Int) ≠ (K : Int)) := by omega
    generalize (lin t p (wrd t p r K) K).1 = x1 at *
    generalize (lin t p (wrd t p r K) K).2.1 = x2 at *
    generalize wby (wrd t p r K) = s at *
    clear hf
    go_enter Tryd.func39, Tryd.ntmps39
    go_wp2_with fail
    refine (HF.out _).mono ?_
    rintro e w1 ⟨rfl, hb1⟩
    have HB1 := Lib.hid (HB.out.trans (hb1.mono HB.out.size))
    have HR1 := Lib.hid (HR.out.kept hb1)
    have m0 := (hb1.cell (p := ⟨w.heap.size, 0, none⟩) (by simp; omega)).trans HM.out.1
    have m1 := (hb1.cell (p := ⟨w.heap.size, 1, none⟩) (by simp; omega)).trans HM.out.2
    have HM1 := Lib.hid (And.intro m0 m1)
    clear hb1
    go_wp2_with fail
    refine (HW.out _ (tab_below HT.out HB1.out (Nat.le_refl _))).mono ?_
    rintro e w2 ⟨rfl, hb2⟩
    have hz1 := HR1.out.lt
    have HB2 := Lib.hid (HB1.out.trans (hb2.mono HB1.out.size))
    have HR2 := Lib.hid (HR1.out.kept hb2)
    clear m0 m1
    have m0 := (hb2.cell (p := ⟨w.heap.size, 0, none⟩) (by dsimp only; omega)).trans HM1.out.1
    have m1 := (hb2.cell (p := ⟨w.heap.size, 1, none⟩) (by dsimp only; omega)).trans HM1.out.2
    clear hb2
    go_wp2_with fail
    refine (HKN.out _ (tab_below HT.out HB2.out (Nat.le_refl _))).mono ?_
    rintro e w3 ⟨rfl, hb3⟩
    have hz2 := HR2.out.lt
    have HB3 := Lib.hid ((HB2.out.trans (hb3.mono HB2.out.size)).trans ((below_new w3 (.cells #[.int .i64 (r : Int), .int .i64 x1, .int .i64 x2] 72)).mono (HB2.out.trans (hb3.mono HB2.out.size)).size))
    have HR3 := Lib.hid ((HR2.out.kept hb3).kept (below_new w3 (.cells #[.int .i64 (r : Int), .int .i64 x1, .int .i64 x2] 72)))
    obtain ⟨c0, c1, c2, f0, f1, f2, lt⟩ := HR3.out
    have hz3 := hb3.size
    have hn1 : ¬ w3.heap.size = w.heap.size + 1 := by omega
    have hn2 : ¬ w.heap.size + 1 = w3.heap.size := by omega
    clear hb3 m0 m1
    go_wp2_with fail
    obtain ⟨g0, g1, g2, _⟩ := HR3.out.put r x1 x2
    refine bodyPost_ret (v := .agg #[.int .i64 (r : Int), .int .i64 x1, .int .i64 x2]) (by simp [results, Tryd.f39, go_sem, g0, g1, g2]) rfl ⟨ret_kin3 (x := (_, _, _)) HE.out.symm, ?_⟩
    exact below_set3 HB3.out (by omega) _ _ _
  · have HE := Lib.hid (frK_no hf)
    have hne : ¬ (((fa t p r K : Nat) : Int) = (K : Int)) := by omega
    generalize fa t p r K = F at *
    clear hf
    go_enter Tryd.func39, Tryd.ntmps39
    go_wp2_with fail
    refine (HF.out _).mono ?_
    rintro e w1 ⟨rfl, hb1⟩
    have HB1 := Lib.hid (HB.out.trans (hb1.mono HB.out.size))
    have HR1 := Lib.hid (HR.out.kept hb1)
    obtain ⟨c0, c1, c2, f0, f1, f2, lt⟩ := HR1.out
    clear hb1
    go_wp2_with fail
    obtain ⟨g0, g1, g2, _⟩ := HR1.out.put 0 0 0
    refine bodyPost_ret (v := .agg #[.int .i64 0, .int .i64 0, .int .i64 0]) (by simp [results, Tryd.f39, go_sem, g0, g1, g2]) rfl ⟨ret_kin3 (x := (_, _, _)) HE.out.symm, ?_⟩
    exact below_set3 HB1.out (by omega) _ _ _

theorem isKin_any (q : Pt) (w : World) :
    Calls Tryd.prog 41 #[.agg #[.int .i64 q.1, .int .i64 q.2.1, .int .i64 q.2.2]] w fun e w' => e = .returned (.bool (kB q)) ∧ Below w.heap.size w w' := by
  obtain ⟨x, y, z⟩ := q
  have HE := Lib.hid (show kB (x, y, z) = !(x == 0 && (y == 0 && z == 0)) from rfl)
  have heq := eqKin x y z 0 0 0
  dsimp only
  generalize (x == 0 && (y == 0 && z == 0)) = b at *
  go_enter Tryd.func41, Tryd.ntmps41
  go_wp2_with fail
  go_ret
  exact ⟨ret_bool HE.out.symm, below_new _ _⟩

theorem filterK_yes {xs : List Pt} {j : Nat} (h : j < xs.length) (hg : kB (xs.getD j pt0) = true) : (xs.take (j + 1)).filter kB = (xs.take j).filter kB ++ [xs.getD j pt0] := by
  have e : xs.take (j + 1) = xs.take j ++ [xs.getD j pt0] := by
    rw [List.take_succ_eq_append_getElem h, List.getD_eq_getElem?_getD, List.getElem?_eq_getElem h]; rfl
  rw [e, List.filter_append]
  simp only [List.filter_cons, hg, if_true, List.filter_nil]
theorem filterK_no {xs : List Pt} {j : Nat} (h : j < xs.length) (hg : kB (xs.getD j pt0) = false) : (xs.take (j + 1)).filter kB = (xs.take j).filter kB := by
  have e : xs.take (j + 1) = xs.take j ++ [xs.getD j pt0] := by
    rw [List.take_succ_eq_append_getElem h, List.getD_eq_getElem?_getD, List.getElem?_eq_getElem h]; rfl
  rw [e, List.filter_append]
  simp only [List.filter_cons, hg, Bool.false_eq_true, if_false, List.filter_nil, List.append_nil]
/-- A row of three cells that can be read. -/
def KinsIn (w : World) (g : Nat) (xs : List Pt) : Prop := ∀ j, j < xs.length → PtCell w g (j * 3) (xs.getD j pt0)

set_option maxRecDepth 100000 in
set_option maxHeartbeats 4000000 in
theorem sieveK_any (xs : List Pt) (g cap : Nat) (w : World) (hl : xs.length ≤ 5000) (hgw : g < w.heap.size) (h : KinsIn w g xs) :
    Calls Tryd.prog 40 #[.slice (some ⟨g, 0, none⟩) xs.length cap, .func (.func 41) #[] #[]] w fun e w' => ∃ v', e = .returned v' ∧ PtsAt w' w.heap.size v' (xs.filter kB) ∧ Below w.heap.size w w' := by
  obtain ⟨i0, hi, hi0, hi1, hi2⟩ := info_parts infoKin
  have hef := enters_of Tryd.func41 (by kernel_rfl) rfl
  have HC := Lib.hid h
  have HG := Lib.hid (fun q W => isKin_any q W)
  have HYES := Lib.hid (fun j (h : j < xs.length) (hg : kB (xs.getD j pt0) = true) => filterK_yes h hg)
  have HNO := Lib.hid (fun j (h : j < xs.length) (hg : kB (xs.getD j pt0) = false) => filterK_no h hg)
  have HLE : Hid (∀ j, ((xs.take j).filter kB).length ≤ xs.length) := Lib.hid (fun j => Nat.le_trans (List.length_filter_le _ _) (by rw [List.length_take]; omega))
  have HFULL : Hid ((xs.take xs.length).filter kB = xs.filter kB) := Lib.hid (by rw [List.take_length])
  have HL := Lib.hid hl
  have hl2 : (xs.length : Int) ≤ 5000 := by omega
  have HN0 : Hid (PtsAt w w.heap.size (.slice none 0 0) ((xs.take 0).filter kB)) := Lib.hid (ptsAt_nil _ _)
  unfold KinsIn at HC
  obtain ⟨K, hK⟩ : ∃ K, xs.length = K := ⟨_, rfl⟩
  rw [hK] at HC HYES HNO HLE HFULL HL hl2 ⊢
  clear hK h hl
  go_enter Tryd.func40, Tryd.ntmps40
  go_wp2_with fail
  go_loopw [5, 7, 10] (fun v _ x wr => ∃ j : Nat, j ≤ K ∧ x = .int .i64 (j : Int) ∧ PtsAt wr w.heap.size v ((xs.take j).filter kB) ∧ Below w.heap.size w wr) (fun _ _ x _ => K - (RowKit.intOf x).toNat)
  case atStart => exact ⟨0, Nat.zero_le _, rfl, HN0.out, Below.refl _ _⟩
  case round =>
    clear HN0
    obtain ⟨j, hj, rfl, hrow, hb⟩ := hrel
    have HO := Lib.hid hrow
    have HB := Lib.hid hb
    have hsz := hb.size
    clear hrow hb
    by_cases hlt : j < K
    · obtain ⟨q0, q1, q2⟩ := (HC.out j hlt).of (HB.out.block g hgw)
      have hlt2 : (j : Int) < (K : Int) := by omega
      have hj0 : (0 : Int) ≤ (j : Int) := by omega
      have HGJ := Lib.hid (fun W => HG.out (xs.getD j pt0) W)
      have HYJ := Lib.hid (HYES.out j hlt)
      have HNJ := Lib.hid (HNO.out j hlt)
      have hlen := HLE.out j
      obtain ⟨x, hx⟩ : ∃ x, x = xs.getD j pt0 := ⟨_, rfl⟩
      rw [← hx] at q0 q1 q2 HGJ HYJ HNJ
      clear hx
      obtain ⟨x0, x1, x2⟩ := x
      dsimp only at q0 q1 q2
      have hba : Below wr.heap.size wr (wr.alloc (.cells #[.int .i64 x0, .int .i64 x1, .int .i64 x2] 72)) := below_new _ _
      have HBA := Lib.hid hba
      have HKX := Lib.hid (Kx.new wr x0 x1 x2 72 rfl)
      clear hba
      cases hgx : kB (x0, x1, x2)
      · have HN2 := Lib.hid (HNJ.out hgx)
        rw [hgx] at HGJ
        clear hgx HYJ HNJ
        go_wp2_with fail
        refine (HGJ.out _).mono ?_
        rintro e w2 ⟨rfl, hb2⟩
        have hbb := HBA.out.trans (hb2.mono HBA.out.size)
        have HO2 := Lib.hid (ownsRow_kept HO.out hbb)
        have HB2 := Lib.hid (HB.out.trans (hbb.mono hsz))
        clear hb2 hbb
        go_wp2_with fail
        exact ⟨⟨j + 1, hlt, by go_num, by rw [HN2.out]; exact HO2.out, HB2.out⟩, by simp [RowKit.intOf]; omega⟩
      · have HY2 := Lib.hid (HYJ.out hgx)
        rw [hgx] at HGJ
        clear hgx HYJ HNJ
        go_wp2_with fail
        refine (HGJ.out _).mono ?_
        rintro e w2 ⟨rfl, hb2⟩
        have hbb := HBA.out.trans (hb2.mono HBA.out.size)
        have HO2 := Lib.hid (ownsRow_kept HO.out hbb)
        have HB2 := Lib.hid (HB.out.trans (hbb.mono hsz))
        obtain ⟨c0, c1, c2, f0, f1, f2, lt⟩ := HKX.out.kept hb2
        have hsz2 := hbb.size
        clear hb2 hbb
        obtain ⟨l, hl⟩ : ∃ l, l = (xs.take j).filter kB := ⟨_, rfl⟩
        rw [← hl] at HO2 HY2 hlen
        have hll : l.length ≤ 5000 := by have := HL.out; omega
        have hj2 : l.length + 1 ≤ maxLen := by unfold maxLen; omega
        clear hl HO
        go_wp2_with (at_builtin; refine wpList_append_own _ rfl _ _ 69 rfl w.heap.size 72 i0 (.agg #[.int .i64 0, .int .i64 0, .int .i64 0]) 3 24 Tryd.underlying69 hi hi0 hi1 hi2 rfl (by decide) _ _ _ rfl (HO2.out.alloc _) ⟨w2.heap.size, 0, none⟩ 1 1 [.int .i64 x0, .int .i64 x1, .int .i64 x2] rfl rfl (fun j u hu => three_new _ _ _ _ _ rfl hu) (by simp [Value.oneCell']) hj2 (by omega) (by simp; omega) ?_; intro v5 w5 hown5 hgrow5 _)
        refine ⟨⟨j + 1, hlt, by go_num, ?_, (HB2.out.trans ((below_new w2 (.cells #[.int .i64 x0, .int .i64 x1, .int .i64 x2] 72)).mono (Nat.le_trans hsz hsz2))).grown hgrow5 (by simp; omega) (fun k e => (World.ownsRow.lt HO2.out k e).1)⟩, by simp [RowKit.intOf]; omega⟩
        rw [HY2.out]
        unfold PtsAt
        rw [ptCells_snoc, List.length_append]
        exact hown5
    · obtain rfl : j = K := by omega
      have hlt2 : ¬ ((j : Int) < (j : Int)) := by omega
      rw [HFULL.out] at HO
      go_wp2_with fail
      go_ret
      exact ⟨_, rfl, HO.out, HB.out⟩
end Go.Proofs.YtgobjobppajkbaaDoor
