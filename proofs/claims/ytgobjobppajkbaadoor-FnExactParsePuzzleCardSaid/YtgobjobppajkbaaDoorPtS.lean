/-
  'pzText', 'PuzzleText' of the model.
-/
import Derived.Test.YtgobjobppajkbaaDoorPtT
import Derived.Test.YtgobjobppajkbaaDoorPzG
import Derived.Test.YtgobjobppajkbaaDoorArgCl
import Derived.Deep.CutRange
import Derived.Deep.RegionLaw
import Derived.Outline
namespace Go.Proofs.YtgobjobppajkbaaDoor
open Go.RowKit
set_option linter.unusedVariables false

theorem l1Num_p (x : Int) (hx : 0 ≤ x ∧ x ≤ 1000000000000) (w : World) : Calls Tryd.prog 95 #[.int .i64 x] w fun e w' => e = .returned (.string (byt (dgP x))) ∧ Below w.heap.size w w' := by
  have := l1Num_all (x.toNat + 1) x.toNat (by omega) (by omega) w
  rwa [show ((x.toNat : Nat) : Int) = x by omega] at this
theorem l1Int_p (x : Int) (h1 : -1000000000000 ≤ x) (h2 : x ≤ 1000000000000) (w : World) : Calls Tryd.prog 96 #[.int .i64 x] w fun e w' => e = .returned (.string (byt (sgP x))) ∧ Below w.heap.size w w' := by
  by_cases hn : x < 0
  · have HC := Lib.hid (fun w => l1Num_p (-x) (by omega) w)
    have HE : Hid (sgP x = [45] ++ dgP (-x)) := Lib.hid (by rw [sgP, if_pos hn])
    have hl := dgP_len (show -x ≤ 1000000000000 by omega)
    have hadd : ∀ w, (Op.stringOp .add ⟨#[45]⟩ (byt (dgP (-x)))).run Tryd.prog w = .ok (.string (byt ([45] ++ dgP (-x)))) w := fun w => byt_add [45] _ (by simp; omega) w
    clear hl
    go_enter Tryd.func96, Tryd.ntmps96
    go_wp2_with fail
    refine (HC.out _).mono ?_
    rintro e w' ⟨rfl, hb⟩
    go_wp2_with fail
    go_ret
    exact ⟨ret_byt (by rw [HE.out]; rfl), hb⟩
  · have HC := Lib.hid (fun w => l1Num_p x (by omega) w)
    have HE : Hid (sgP x = dgP x) := Lib.hid (by rw [sgP, if_neg hn])
    go_enter Tryd.func96, Tryd.ntmps96
    go_wp2_with fail
    refine (HC.out _).mono ?_
    rintro e w' ⟨rfl, hb⟩
    go_wp2_with fail
    go_ret
    exact ⟨ret_byt (by rw [HE.out]), hb⟩

set_option maxRecDepth 100000 in
set_option maxHeartbeats 8000000 in
theorem pzText_any (mt mp : Int) (ps : List Pt) (v : Value) (w : World) (hg : pzB mt mp ps = true) (h : PuzIn w v mt mp ps) :
    Calls Tryd.prog 58 #[v] w fun e w' => e = .returned (.string (byt (pzT mt mp ps ps.length))) ∧ Below w.heap.size w w' := by
  obtain ⟨hgm, hl8, hcl⟩ := pzB_iff.1 hg
  obtain ⟨u, rfl, hx0⟩ := h.parts
  obtain ⟨a, c, rfl, hx⟩ := hx0.rd
  have HX := Lib.hid hx
  have HIN := Lib.hid (fun i (hi : i < ps.length) => clIn_of (q := ps.getD i pt0) (by
    have := List.all_eq_true.1 hcl (ps.getD i pt0) (by rw [List.getD_eq_getElem?_getD, List.getElem?_eq_getElem hi]; simp)
    exact this))
  have HML := Lib.hid (fun j hj => pzT_len mt mp (ps := ps) (K := ps.length) HIN.out j hj)
  have HNX := Lib.hid (fun j => pzP_next mt mp ps j)
  have HMT := Lib.hid (fun W => mpText_any mt mp hgm W)
  obtain ⟨K, hK⟩ : ∃ K, ps.length = K := ⟨_, rfl⟩
  rw [hK] at HX HIN HML hl8 ⊢
  have HB := Lib.hid (below_new w (.cells #[.int .i64 mt, .int .i64 mp, .slice a K c] 55))
  have HBo := Lib.hid (Bz.new w mt mp (.slice a K c) 55)
  have HH : Hid (hdP mt mp = mtx mt mp ++ [58]) := Lib.hid rfl
  have HZ : Hid (pzT mt mp ps 0 = hdP mt mp) := Lib.hid (by simp [pzT, czT_zero])
  have hml0 : (mtx mt mp).length ≤ 10 := by have := hdP_len mt mp; simp [hdP] at this; omega
  have haddm : ∀ w, (Op.stringOp .add (byt (mtx mt mp)) ⟨#[58]⟩).run Tryd.prog w = .ok (.string (byt (mtx mt mp ++ [58]))) w := fun w => byt_add _ [58] (by simp; omega) w
  clear hg h hx hK hcl hx0 hml0
  go_enter Tryd.func58, Tryd.ntmps58
  go_wp2_with fail
  refine (HMT.out _).mono ?_
  rintro e w1 ⟨rfl, hb1⟩
  replace HB := Lib.hid (HB.out.trans (hb1.mono HB.out.size))
  replace HBo := Lib.hid (HBo.out.kept hb1)
  clear hb1
  obtain ⟨⟨p0, p1, p2⟩, p3⟩ := HBo.out
  go_wp2_with fail
  go_loopw [3, 4, 5, 13] (fun o _ _ i wr => ∃ j : Nat, j ≤ K ∧ i = .int .i64 j ∧ o = .string (byt (pzT mt mp ps j)) ∧ Below w.heap.size w wr) (fun _ _ _ i _ => K - (RowKit.intOf i).toNat)
  case atStart => exact ⟨0, Nat.zero_le _, rfl, by rw [HZ.out, HH.out], HB.out⟩
  case round =>
    clear HBo HB p0 p1 p2 p3 haddm HMT HZ HH
    obtain ⟨j, hj, rfl, rfl, hb⟩ := hrel
    have HBR := Lib.hid hb
    by_cases hlt : j < K
    · obtain ⟨g, rfl, hgl, q⟩ := HX.out j hlt
      have q2 := q.of (hb.block g hgl)
      have hin2 := HIN.out j hlt
      have HPX := Lib.hid (clX_len hin2)
      have HNJ := Lib.hid (HNX.out j)
      have hml := HML.out j hj
      clear q hb
      obtain ⟨pt, hpt⟩ : ∃ pt, ps.getD j pt0 = pt := ⟨_, rfl⟩
      rw [hpt] at q2 hin2 HNJ HPX
      obtain ⟨t, p, o⟩ := pt
      obtain ⟨k0, k1, k2⟩ := q2
      unfold clIn at hin2
      dsimp only at k0 k1 k2 hin2
      obtain ⟨i1, i2, i3, i4, i5, i6⟩ := hin2
      have hlt2 : (j : Int) < (K : Int) := by omega
      have hj0 : (0 : Int) ≤ (j : Int) := by omega
      have hge : ¬ (g = wr.heap.size) := by have := HBR.out.size; omega
      have HRn := Lib.hid (HBR.out.trans ((below_new wr (.cells #[.int .i64 t, .int .i64 p, .int .i64 o] 93)).mono HBR.out.size))
      have hpl : (pzP mt mp ps j).length ≤ 5 + 21 * j + 1 := by
        unfold pzP czP
        unfold pzT at hml
        split
        · simp [hdP_len]; omega
        · simp at hml ⊢; omega
      have hP0 : Hid (j = 0 → pzP mt mp ps j = pzT mt mp ps j) := Lib.hid (fun e => by subst e; rfl)
      have hP1 : Hid (0 < j → pzT mt mp ps j ++ [44] = pzP mt mp ps j) := Lib.hid (fun e => by rw [pzP, pzT, czP, if_neg (by omega), List.append_assoc])
      generalize pzP mt mp ps j = P at *
      generalize hT : pzT mt mp ps j = T at *
      have HFR : Hid (clX (t, p, o) = dgP t ++ [46] ++ dgP p ++ [46] ++ sgP o) := Lib.hid rfl
      have hd1 := dgP_len2 (show t ≤ 20 by omega)
      have hd2 := dgP_len2 i4
      have hd3 := sgP_len i5 i6
      have HXB : Hid (0 ≤ t ∧ t ≤ 1000000000000) := Lib.hid (by omega)
      have HYB : Hid (0 ≤ p ∧ p ≤ 1000000000000) := Lib.hid (by omega)
      have HC := Lib.hid (fun x hx w => l1Num_p x hx w)
      have HAB := Lib.hid (fun w => l1Int_p o i5 i6 w)
      generalize hSP : sgP o = S at *
      have hadd : ∀ w, (Op.stringOp .add (byt T) ⟨#[44]⟩).run Tryd.prog w = .ok (.string (byt (T ++ [44]))) w := fun w => byt_add T [44] (by simp; omega) w
      have hadd1 : ∀ w, (Op.stringOp .add (byt (dgP t)) ⟨#[46]⟩).run Tryd.prog w = .ok (.string (byt (dgP t ++ [46]))) w := fun w => byt_add _ [46] (by simp; omega) w
      have hadd2 : ∀ w, (Op.stringOp .add (byt (dgP t ++ [46])) (byt (dgP p))).run Tryd.prog w = .ok (.string (byt (dgP t ++ [46] ++ dgP p))) w := fun w => byt_add _ _ (by simp; omega) w
      have hadd3 : ∀ w, (Op.stringOp .add (byt (dgP t ++ [46] ++ dgP p)) ⟨#[46]⟩).run Tryd.prog w = .ok (.string (byt (dgP t ++ [46] ++ dgP p ++ [46]))) w := fun w => byt_add _ [46] (by simp; omega) w
      have hadd4 : ∀ w, (Op.stringOp .add (byt (dgP t ++ [46] ++ dgP p ++ [46])) (byt S)).run Tryd.prog w = .ok (.string (byt (dgP t ++ [46] ++ dgP p ++ [46] ++ S))) w := fun w => byt_add _ _ (by simp; omega) w
      have hadd5 : ∀ w, (Op.stringOp .add (byt P) (byt (dgP t ++ [46] ++ dgP p ++ [46] ++ S))).run Tryd.prog w = .ok (.string (byt (P ++ (dgP t ++ [46] ++ dgP p ++ [46] ++ S)))) w := fun w => byt_add _ _ (by simp; omega) w
      rw [HFR.out] at HNJ
      generalize dgP t ++ [46] ++ dgP p ++ [46] ++ S = F5 at *
      generalize hf4 : dgP t ++ [46] ++ dgP p ++ [46] = F4 at *
      generalize hf3 : dgP t ++ [46] ++ dgP p = F3 at *
      generalize hf2 : dgP t ++ [46] = F2 at *
      clear hf4 hf3 hf2 HFR HPX hml hd1 hd2 hd3 hpt hT hpl HML HNX
      go_upto_if 19 with fail
      go_cut [3] from 19 to 21 (fun s3 wx => s3 = .string (byt P) ∧ Hid ((wr.alloc (.cells #[.int .i64 t, .int .i64 p, .int .i64 o] 93)) = wx))
      case first =>
        by_cases hj0 : j = 0
        · have hj1 : decide (0 < j) = false := by simp; omega
          have e := Lib.hid (hP0.out hj0)
          have HJ0 := Lib.hid hj0
          clear hj0
          go_wp2_with fail
          all_goals first
            | (exfalso; have h9 := HJ0.out; omega)
            | (go_meet; case rel => exact ⟨congrArg (fun q => Value.string (byt q)) e.out.symm, Lib.hid rfl⟩)
        · have hj1 : decide (0 < j) = true := by simp; omega
          have HE := Lib.hid (hP1.out (by omega))
          have HJ0 := Lib.hid hj0
          clear hj0
          go_wp2_with fail
          all_goals first
            | (exfalso; have h9 := HJ0.out; omega)
            | (go_meet; case rel => exact ⟨congrArg (fun q => Value.string (byt q)) HE.out, Lib.hid rfl⟩)
      case rest =>
        obtain ⟨rfl, hwx⟩ := hcut
        have hwx2 := hwx.out
        subst hwx2
        clear hwx
        go_upto_region 7 with fail
        clear k0 k1 k2 hge hj0 hadd hSP
        have q0 : (wr.alloc (.cells #[.int .i64 t, .int .i64 p, .int .i64 o] 93)).cell? ⟨wr.heap.size, 0, none⟩ = some (.int .i64 t) := by go_simp
        have q1 : (wr.alloc (.cells #[.int .i64 t, .int .i64 p, .int .i64 o] 93)).cell? ⟨wr.heap.size, 1, none⟩ = some (.int .i64 p) := by go_simp
        have q2 : (wr.alloc (.cells #[.int .i64 t, .int .i64 p, .int .i64 o] 93)).cell? ⟨wr.heap.size, 2, none⟩ = some (.int .i64 o) := by go_simp
        have HOB : Hid (∀ w3, Below (wr.alloc (.cells #[.int .i64 t, .int .i64 p, .int .i64 o] 93)).heap.size (wr.alloc (.cells #[.int .i64 t, .int .i64 p, .int .i64 o] 93)) w3 → w3.cell? ⟨wr.heap.size, 0, none⟩ = some (.int .i64 t) ∧ w3.cell? ⟨wr.heap.size, 1, none⟩ = some (.int .i64 p) ∧ w3.cell? ⟨wr.heap.size, 2, none⟩ = some (.int .i64 o)) := Lib.hid (fun w3 hb => by
          have hs : wr.heap.size < (wr.alloc (.cells #[.int .i64 t, .int .i64 p, .int .i64 o] 93)).heap.size := by simp
          exact ⟨(hb.cell (p := ⟨wr.heap.size, 0, none⟩) hs).trans (by go_simp), (hb.cell (p := ⟨wr.heap.size, 1, none⟩) hs).trans (by go_simp), (hb.cell (p := ⟨wr.heap.size, 2, none⟩) hs).trans (by go_simp)⟩)
        go_region_law (go_simp; first
          | (go_at_call 96; refine (HAB.out _).mono ?_; rintro e w3 ⟨rfl, hb3⟩; (first
            | (have HB5 : Hid (Below (wr.alloc (.cells #[.int .i64 t, .int .i64 p, .int .i64 o] 93)).heap.size (wr.alloc (.cells #[.int .i64 t, .int .i64 p, .int .i64 o] 93)) w3) := Lib.hid (HB4.out.trans (by first | exact hb3.mono HB4.out.size | exact ((Below.refl _ _).drew.trans hb3).mono HB4.out.size | exact ((Below.refl _ _).drew.drew.trans hb3).mono HB4.out.size)); clear hb3; obtain ⟨m0, m1, m2⟩ := HOB.out _ HB5.out)
            | (have HB4 : Hid (Below (wr.alloc (.cells #[.int .i64 t, .int .i64 p, .int .i64 o] 93)).heap.size (wr.alloc (.cells #[.int .i64 t, .int .i64 p, .int .i64 o] 93)) w3) := Lib.hid (HB3.out.trans (by first | exact hb3.mono HB3.out.size | exact ((Below.refl _ _).drew.trans hb3).mono HB3.out.size | exact ((Below.refl _ _).drew.drew.trans hb3).mono HB3.out.size)); clear hb3; obtain ⟨m0, m1, m2⟩ := HOB.out _ HB4.out)
            | (have HB3 : Hid (Below (wr.alloc (.cells #[.int .i64 t, .int .i64 p, .int .i64 o] 93)).heap.size (wr.alloc (.cells #[.int .i64 t, .int .i64 p, .int .i64 o] 93)) w3) := Lib.hid (by first | exact hb3 | exact (Below.refl _ _).drew.trans hb3 | exact (Below.refl _ _).drew.drew.trans hb3); clear hb3; obtain ⟨m0, m1, m2⟩ := HOB.out _ HB3.out)))
          | (go_at_call 95; refine (HC.out _ (by first | exact HXB.out | exact HYB.out) _).mono ?_; rintro e w3 ⟨rfl, hb3⟩; (first
            | (have HB5 : Hid (Below (wr.alloc (.cells #[.int .i64 t, .int .i64 p, .int .i64 o] 93)).heap.size (wr.alloc (.cells #[.int .i64 t, .int .i64 p, .int .i64 o] 93)) w3) := Lib.hid (HB4.out.trans (by first | exact hb3.mono HB4.out.size | exact ((Below.refl _ _).drew.trans hb3).mono HB4.out.size | exact ((Below.refl _ _).drew.drew.trans hb3).mono HB4.out.size)); clear hb3; obtain ⟨m0, m1, m2⟩ := HOB.out _ HB5.out)
            | (have HB4 : Hid (Below (wr.alloc (.cells #[.int .i64 t, .int .i64 p, .int .i64 o] 93)).heap.size (wr.alloc (.cells #[.int .i64 t, .int .i64 p, .int .i64 o] 93)) w3) := Lib.hid (HB3.out.trans (by first | exact hb3.mono HB3.out.size | exact ((Below.refl _ _).drew.trans hb3).mono HB3.out.size | exact ((Below.refl _ _).drew.drew.trans hb3).mono HB3.out.size)); clear hb3; obtain ⟨m0, m1, m2⟩ := HOB.out _ HB4.out)
            | (have HB3 : Hid (Below (wr.alloc (.cells #[.int .i64 t, .int .i64 p, .int .i64 o] 93)).heap.size (wr.alloc (.cells #[.int .i64 t, .int .i64 p, .int .i64 o] 93)) w3) := Lib.hid (by first | exact hb3 | exact (Below.refl _ _).drew.trans hb3 | exact (Below.refl _ _).drew.drew.trans hb3); clear hb3; obtain ⟨m0, m1, m2⟩ := HOB.out _ HB3.out))))
        all_goals
          go_wp2_with fail
        all_goals exact ⟨⟨j + 1, hlt, by go_num, by rw [HNJ.out], (by first | exact HRn.out.trans (HB5.out.mono HRn.out.size) | exact (HRn.out.trans (HB5.out.mono HRn.out.size)).drew | exact (HRn.out.trans (HB5.out.mono HRn.out.size)).drew.drew)⟩, by simp [RowKit.intOf]; omega⟩
    · obtain rfl : j = K := by omega
      have hlt2 : ¬ ((j : Int) < (j : Int)) := by omega
      clear hb
      go_wp2_with fail
      go_ret
      exact ⟨rfl, HBR.out⟩
end Go.Proofs.YtgobjobppajkbaaDoor
