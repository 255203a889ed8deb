/-
  'maText', 'MachineText' of the model.
-/
import Derived.Test.YtjnghlnhogalbaaDoorDgt
import Derived.Test.YtjnghlnhogalbaaDoorBx
import Derived.Deep.CutRange
import Derived.Outline
namespace Go.Proofs.YtjnghlnhogalbaaDoor
open Go.RowKit
set_option linter.unusedVariables false

/-- What stands ahead of fraction number j. -/
def mcP (ns ds : List Int) (j : Nat) : List UInt8 := if j = 0 then [] else mcT ns ds j ++ [44]
theorem mcP_next (ns ds : List Int) (j : Nat) : mcT ns ds (j + 1) = mcP ns ds j ++ frT ns ds j := by
  unfold mcP
  rcases Nat.eq_zero_or_pos j with rfl | h
  · rw [if_pos rfl, mcT_one]; rfl
  · rw [if_neg (by omega), mcT_succ ns ds h]
/-- The digits of a number. -/
def dgT (x : Int) : List UInt8 := Lib.decDigits x.toNat
theorem dgT_len {x : Int} (h : x ≤ 100000) : (dgT x).length ≤ 6 := dd_len 5 x.toNat (by omega)
theorem frT_dg (ns ds : List Int) (j : Nat) : frT ns ds j = dgT (ns.getD j 0) ++ [47] ++ dgT (ds.getD j 0) := rfl
theorem l1Num_int (x : Int) (hx : 0 ≤ x ∧ x ≤ 100000) (w : World) : Calls Tryd.prog 84 #[.int .i64 x] w fun e w' => e = .returned (.string (byt (dgT x))) ∧ Below w.heap.size w w' := by
  have := l1Num_all (x.toNat + 1) x.toNat (by omega) (by omega) w
  rwa [show ((x.toNat : Nat) : Int) = x by omega] at this
theorem ret_txt2 {x : ByteArray} {s : ByteArray} (h : x = s) : Ending.returned (.string x) = .returned (.string s) := by rw [h]

set_option maxRecDepth 100000 in
set_option maxHeartbeats 4000000 in
theorem maText_any (ns ds : List Int) (v : Value) (w : World) (hg : maB ns ds = true) (hne : ns ≠ []) (h : MacIn w v ns ds) :
    Calls Tryd.prog 55 #[v] w fun e w' => e = .returned (.string (byt (mcT ns ds ns.length))) ∧ Below w.heap.size w w' := by
  obtain ⟨v1, v2, rfl, i1, i2⟩ := h
  obtain ⟨hl, h12, hns, hds⟩ := maB_parts hg
  have A := Bx.new w v1 v2 46
  have HB := Lib.hid (below_alloc w (.cells #[v1, v2] 46))
  obtain ⟨a1, c1, rfl, x1⟩ := i1.rd
  obtain ⟨a2, c2, rfl, x2⟩ := i2.rd
  have HML := Lib.hid (mcT_len (K := ns.length) (fun i hi => (hns i hi).2) (fun i hi => (hds i hi).2))
  obtain ⟨K, hK⟩ : ∃ K, ns.length = K := ⟨_, rfl⟩
  have hK0 : K ≠ 0 := fun e => hne (List.eq_nil_of_length_eq_zero (by omega))
  rw [hK] at hl h12 hns hds x1 HML
  rw [hK] at A HB ⊢
  rw [← hl] at x2 A HB ⊢
  have HX1 := Lib.hid x1
  have HX2 := Lib.hid x2
  have HNS := Lib.hid hns
  have HDS := Lib.hid hds
  have hK2 : (K : Int) ≤ 12 := by omega
  have hK3 : ¬ (K : Int) = 0 := by omega
  have HNX := Lib.hid (fun j => mcP_next ns ds j)
  have HA := Lib.hid A
  obtain ⟨A0, A1, A2⟩ := A
  clear hg hne hns hds x1 x2 i1 i2 hl hK
  go_enter Tryd.func55, Tryd.ntmps55
  go_wp2_with fail
  clear A0 A1 A2
  go_loopw [3, 13] (fun o i wr => ∃ j : Nat, j ≤ K ∧ i = .int .i64 j ∧ o = .string (byt (mcT ns ds j)) ∧ Bx wr w.heap.size (.slice a1 K c1) (.slice a2 K c2) ∧ Below w.heap.size w wr) (fun _ i _ => K - (RowKit.intOf i).toNat)
  case atStart => exact ⟨0, Nat.zero_le _, rfl, rfl, HA.out, HB.out⟩
  case round =>
    obtain ⟨j, hj, rfl, rfl, A, hb⟩ := hrel
    have HAR := Lib.hid A
    have HBR := Lib.hid hb
    by_cases hlt : j < K
    · obtain ⟨g1, rfl, k1, q1⟩ := HX1.out j hlt
      obtain ⟨g2, rfl, k2, q2⟩ := HX2.out j hlt
      have hx := HNS.out j hlt
      have hy := HDS.out j hlt
      replace q1 := (hb.cell (p := ⟨g1, j, none⟩) k1).trans q1
      replace q2 := (hb.cell (p := ⟨g2, j, none⟩) k2).trans q2
      have hg2 := Nat.lt_of_lt_of_le k2 hb.size
      have hlt2 : (j : Int) < (K : Int) := by omega
      have hml := HML.out j (by omega)
      have HNJ := Lib.hid (HNX.out j)
      rw [frT_dg] at HNJ
      have hd1 := dgT_len hx.2
      have hd2 := dgT_len hy.2
      generalize ns.getD j 0 = x at *
      generalize ds.getD j 0 = y at *
      have HXB : Hid (0 ≤ x ∧ x ≤ 100000) := Lib.hid (by omega)
      have HYB : Hid (0 ≤ y ∧ y ≤ 100000) := Lib.hid (by omega)
      have HC := Lib.hid (fun x hx w => l1Num_int x hx w)
      have hpl : (mcP ns ds j).length ≤ 14 * j + 1 := by
        unfold mcP
        split
        · simp
        · simp; omega
      have hP0 : Hid (j = 0 → mcP ns ds j = mcT ns ds j) := Lib.hid (fun e => by subst e; rfl)
      have hP1 : Hid (0 < j → mcT ns ds j ++ [44] = mcP ns ds j) := Lib.hid (fun e => by rw [mcP, if_neg (by omega)])
      generalize mcP ns ds j = P at *
      generalize hT : mcT ns ds j = T at *
      have hadd : ∀ w, (Op.stringOp .add (byt T) ⟨#[44]⟩).run Tryd.prog w = .ok (.string (byt (T ++ [44]))) w := fun w => byt_add T [44] (by simp; omega) w
      have hadd1 : ∀ w, (Op.stringOp .add (byt (dgT x)) ⟨#[47]⟩).run Tryd.prog w = .ok (.string (byt (dgT x ++ [47]))) w := fun w => byt_add _ [47] (by simp; omega) w
      have hadd2 : ∀ w, (Op.stringOp .add (byt (dgT x ++ [47])) (byt (dgT y))).run Tryd.prog w = .ok (.string (byt (dgT x ++ [47] ++ dgT y))) w := fun w => byt_add _ _ (by simp; omega) w
      have hadd3 : ∀ w, (Op.stringOp .add (byt P) (byt (dgT x ++ [47] ++ dgT y))).run Tryd.prog w = .ok (.string (byt (P ++ (dgT x ++ [47] ++ dgT y)))) w := fun w => byt_add _ _ (by simp; omega) w
      generalize dgT x ++ [47] ++ dgT y = FR at *
      generalize hDX : dgT x ++ [47] = DX at *
      clear hx hy hml hd1 hd2 hpl hDX hT hb A HML HNX
      obtain ⟨A0, A1, A2⟩ := HAR.out
      go_upto_if 19 with fail
      clear hK3
      go_cut [3] from 19 to 21 (fun s3 wx => s3 = .string (byt P) ∧ Hid (wr = wx))
      case first =>
        by_cases hj0 : j = 0
        · have hj1 : decide (0 < j) = false := by simp; omega
          have e := Lib.hid (hP0.out hj0)
          have HJ0 := Lib.hid hj0
          clear hj0
          go_wp2_with fail
          all_goals first
            | (exfalso; have h9 := HJ0.out; omega)
            | (go_meet; case rel => exact ⟨congrArg (fun q => Value.string (byt q)) e.out.symm, Lib.hid rfl⟩)
        · have hj1 : decide (0 < j) = true := by simp; omega
          have HE := Lib.hid (hP1.out (by omega))
          have HJ0 := Lib.hid hj0
          clear hj0
          go_wp2_with fail
          all_goals first
            | (exfalso; have h9 := HJ0.out; omega)
            | (go_meet; case rel => exact ⟨congrArg (fun q => Value.string (byt q)) HE.out, Lib.hid rfl⟩)
      case rest =>
        obtain ⟨rfl, hwx⟩ := hcut
        have hwx2 := hwx.out
        subst hwx2
        go_upto_region 9 with fail
        go_region_law (go_simp; go_at_call 84; refine (HC.out _ (by first | exact HXB.out | exact HYB.out) _).mono ?_; rintro e w3 ⟨rfl, hb3⟩; first | (have HB4 : Hid (Below wr.heap.size wr w3) := Lib.hid (HB3.out.trans (by first | exact hb3.mono HB3.out.size | exact ((Below.refl _ _).drew.trans hb3).mono HB3.out.size | exact ((Below.refl _ _).drew.drew.trans hb3).mono HB3.out.size)); clear hb3; have A0' := (HB4.out.cell (p := ⟨w.heap.size, 0, none⟩) A2).trans A0; have A1' := (HB4.out.cell (p := ⟨w.heap.size, 1, none⟩) A2).trans A1; have q2' := (HB4.out.cell (p := ⟨g2, j, none⟩) hg2).trans q2; have A2' := Nat.lt_of_lt_of_le A2 HB4.out.size; have hg2' := Nat.lt_of_lt_of_le hg2 HB4.out.size) | (have HB3 : Hid (Below wr.heap.size wr w3) := Lib.hid (by first | exact hb3 | exact (Below.refl _ _).drew.trans hb3 | exact (Below.refl _ _).drew.drew.trans hb3); clear hb3; have A0' := (HB3.out.cell (p := ⟨w.heap.size, 0, none⟩) A2).trans A0; have A1' := (HB3.out.cell (p := ⟨w.heap.size, 1, none⟩) A2).trans A1; have q2' := (HB3.out.cell (p := ⟨g2, j, none⟩) hg2).trans q2; have A2' := Nat.lt_of_lt_of_le A2 HB3.out.size; have hg2' := Nat.lt_of_lt_of_le hg2 HB3.out.size))
        all_goals
          go_wp2_with fail
          refine ⟨⟨.string (byt (mcT ns ds (j + 1))), _, _, .int .i64 ((j + 1 : Nat) : Int), ⟨j + 1, hlt, rfl, rfl, ?_, ?_⟩, by rw [HNJ.out], rfl, rfl, by go_num⟩, by simp [RowKit.intOf]; omega⟩
          · first
              | exact HAR.out.kept HB4.out
              | exact HAR.out.kept HB4.out.drew
              | exact HAR.out.kept HB4.out.drew.drew
          · first
              | exact HBR.out.trans (HB4.out.mono HBR.out.size)
              | exact (HBR.out.trans (HB4.out.mono HBR.out.size)).drew
              | exact (HBR.out.trans (HB4.out.mono HBR.out.size)).drew.drew
    · obtain rfl : j = K := by omega
      have hlt2 : ¬ ((j : Int) < (j : Int)) := by omega
      clear hb A
      go_wp2_with fail
      go_ret
      exact ⟨rfl, HBR.out⟩
end Go.Proofs.YtjnghlnhogalbaaDoor
