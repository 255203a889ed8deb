/-
  'omText', 'OtherText' of the model.
-/
import Derived.Test.YtgobjobppajkbaaDoorOtT
import Derived.Test.YtgobjobppajkbaaDoorOtG
import Derived.Test.YtgobjobppajkbaaDoorArgPt
import Derived.Deep.CutRange
import Derived.Deep.RegionLaw
import Derived.Outline
namespace Go.Proofs.YtgobjobppajkbaaDoor
open Go.RowKit
set_option linter.unusedVariables false

theorem l1Num_o (x : Int) (hx : 0 ≤ x ∧ x ≤ 20) (w : World) : Calls Tryd.prog 95 #[.int .i64 x] w fun e w' => e = .returned (.string (byt (dgO x))) ∧ Below w.heap.size w w' := by
  have := l1Num_all (x.toNat + 1) x.toNat (by omega) (by omega) w
  rwa [show ((x.toNat : Nat) : Int) = x by omega] at this
def mxO (a b : Int) : Int := if b < a then a else b
theorem l1Most_o (a b : Int) (w : World) : Calls Tryd.prog 139 #[.int .i64 a, .int .i64 b] w fun e w' => e = .returned (.int .i64 (mxO a b)) ∧ w = w' := by
  by_cases h : b < a
  · have HE : Hid (mxO a b = a) := Lib.hid (by rw [mxO, if_pos h])
    go_enter Tryd.func139, Tryd.ntmps139
    go_wp2_with fail
    go_ret
    exact ⟨ret_int HE.out.symm, rfl⟩
  · have HE : Hid (mxO a b = b) := Lib.hid (by rw [mxO, if_neg h])
    go_enter Tryd.func139, Tryd.ntmps139
    go_wp2_with fail
    go_ret
    exact ⟨ret_int HE.out.symm, rfl⟩
theorem l1Abs_o (p : Int) (h1 : -20 ≤ p) (h2 : p ≤ 20) (w : World) : Calls Tryd.prog 119 #[.int .i64 p] w fun e w' => e = .returned (.int .i64 (absO p)) ∧ w = w' := by
  have HM := Lib.hid (fun w => l1Most_o p (-p) w)
  have HE : Hid (mxO p (-p) = absO p) := Lib.hid (by unfold absO mxO; split <;> split <;> omega)
  rw [HE.out] at HM
  go_enter Tryd.func119, Tryd.ntmps119
  go_wp2_with fail
  refine (HM.out _).mono ?_
  rintro e w' ⟨rfl, rfl⟩
  go_wp2_with fail
  go_ret
  exact ⟨rfl, rfl⟩

set_option maxRecDepth 100000 in
set_option maxHeartbeats 8000000 in
theorem omText_any (ps : List Pt) (v : Value) (w : World) (hg : omB ps = true) (h : OthIn w v ps) :
    Calls Tryd.prog 88 #[v] w fun e w' => e = .returned (.string (byt (otT ps ps.length))) ∧ Below w.heap.size w w' := by
  obtain ⟨a, c, rfl, hx⟩ := h.rd
  have hl8 := omB_len hg
  have HX := Lib.hid hx
  have HIN := Lib.hid (fun i (hi : i < ps.length) => (ptOk_iff.1 (omB_at hg hi)).1)
  have HML := Lib.hid (otT_len (ps := ps) (K := ps.length) HIN.out)
  have HNX := Lib.hid (fun j => otP_next ps j)
  obtain ⟨K, hK⟩ : ∃ K, ps.length = K := ⟨_, rfl⟩
  rw [hK] at HX HIN HML hl8 ⊢
  obtain ⟨hK1, hK2⟩ := hl8
  have HB := Lib.hid (below_new w (.cells #[.slice a K c] 42))
  have HBo := Lib.hid (Bo.new w (.slice a K c) 42)
  clear hg h hx hK
  go_enter Tryd.func88, Tryd.ntmps88
  go_wp2_with fail
  go_loopw [3, 4, 5, 6, 10] (fun o _ _ _ i wr => ∃ j : Nat, j ≤ K ∧ i = .int .i64 j ∧ o = .string (byt (otT ps j)) ∧ Bo wr w.heap.size (.slice a K c) ∧ Below w.heap.size w wr) (fun _ _ _ _ i _ => K - (RowKit.intOf i).toNat)
  case atStart => exact ⟨0, Nat.zero_le _, rfl, rfl, HBo.out, HB.out⟩
  case round =>
    clear HBo HB
    obtain ⟨j, hj, rfl, rfl, hbo, hb⟩ := hrel
    have HBR := Lib.hid hb
    have HBO := Lib.hid hbo
    by_cases hlt : j < K
    · obtain ⟨g, rfl, hgl, q⟩ := HX.out j hlt
      have q2 := q.of (hb.block g hgl)
      have hin := HIN.out j hlt
      have HPX := Lib.hid (ptX_len hin)
      have HNJ := Lib.hid (HNX.out j)
      have hml := HML.out j hj
      have hin2 := ptIn_iff.1 hin
      obtain ⟨p0, p1⟩ := hbo
      clear q hb hin
      obtain ⟨pt, hpt⟩ : ∃ pt, ps.getD j pt0 = pt := ⟨_, rfl⟩
      rw [hpt] at q2 hin2 HNJ HPX
      obtain ⟨t, p, o⟩ := pt
      obtain ⟨k0, k1, k2⟩ := q2
      dsimp only at k0 k1 k2 hin2
      obtain ⟨i1, i2, i3, i4, i5, i6⟩ := hin2
      have hlt2 : (j : Int) < (K : Int) := by omega
      have hj0 : (0 : Int) ≤ (j : Int) := by omega
      have hne : ¬ (w.heap.size = wr.heap.size) := by omega
      have hne2 : ¬ (wr.heap.size = w.heap.size) := by omega
      have hge : ¬ (g = wr.heap.size) := by omega
      have HBn := Lib.hid (HBO.out.grow (.cells #[.int .i64 t, .int .i64 p, .int .i64 o] 118))
      have HRn := Lib.hid (HBR.out.trans ((below_new wr (.cells #[.int .i64 t, .int .i64 p, .int .i64 o] 118)).mono HBR.out.size))
      have hpl : (otP ps j).length ≤ 10 * j + 1 := by
        unfold otP
        split
        · simp
        · simp; omega
      have hP0 : Hid (j = 0 → otP ps j = otT ps j) := Lib.hid (fun e => by subst e; rfl)
      have hP1 : Hid (0 < j → otT ps j ++ [59] = otP ps j) := Lib.hid (fun e => by rw [otP, if_neg (by omega)])
      generalize otP ps j = P at *
      generalize hT : otT ps j = T at *
      have HFR : Hid (ptX (t, p, o) = dgO t ++ [110] ++ sgO p ++ dgO (absO p) ++ [47] ++ dgO o) := Lib.hid rfl
      have ha1 : 0 ≤ absO p := by unfold absO; split <;> omega
      have ha2 : absO p ≤ 20 := by unfold absO; split <;> omega
      have HSG : Hid (p < 0 → sgO p = [45]) := Lib.hid (fun h => by rw [sgO, if_pos h])
      have HSG2 : Hid (¬ p < 0 → sgO p = [43]) := Lib.hid (fun h => by rw [sgO, if_neg h])
      have hsl : (sgO p).length = 1 := by unfold sgO; split <;> rfl
      have hd1 := dgO_len i2
      have hd2 := dgO_len ha2
      have hd3 := dgO_len i6
      have HXB : Hid (0 ≤ t ∧ t ≤ 20) := Lib.hid (by omega)
      have HYB : Hid (0 ≤ absO p ∧ absO p ≤ 20) := Lib.hid (by omega)
      have HZB : Hid (0 ≤ o ∧ o ≤ 20) := Lib.hid (by omega)
      have HC := Lib.hid (fun x hx w => l1Num_o x hx w)
      have HAB := Lib.hid (fun w => l1Abs_o p i3 i4 w)
      generalize hAP : absO p = ap at *
      generalize hSP : sgO p = S at *
      have hadd : ∀ w, (Op.stringOp .add (byt T) ⟨#[59]⟩).run Tryd.prog w = .ok (.string (byt (T ++ [59]))) w := fun w => byt_add T [59] (by simp; omega) w
      have hadd1 : ∀ w, (Op.stringOp .add (byt (dgO t)) ⟨#[110]⟩).run Tryd.prog w = .ok (.string (byt (dgO t ++ [110]))) w := fun w => byt_add _ [110] (by simp; omega) w
      have hadd2 : ∀ w, (Op.stringOp .add (byt (dgO t ++ [110])) (byt S)).run Tryd.prog w = .ok (.string (byt (dgO t ++ [110] ++ S))) w := fun w => byt_add _ _ (by simp; omega) w
      have hadd3 : ∀ w, (Op.stringOp .add (byt (dgO t ++ [110] ++ S)) (byt (dgO ap))).run Tryd.prog w = .ok (.string (byt (dgO t ++ [110] ++ S ++ dgO ap))) w := fun w => byt_add _ _ (by simp; omega) w
      have hadd4 : ∀ w, (Op.stringOp .add (byt (dgO t ++ [110] ++ S ++ dgO ap)) ⟨#[47]⟩).run Tryd.prog w = .ok (.string (byt (dgO t ++ [110] ++ S ++ dgO ap ++ [47]))) w := fun w => byt_add _ [47] (by simp; omega) w
      have hadd5 : ∀ w, (Op.stringOp .add (byt (dgO t ++ [110] ++ S ++ dgO ap ++ [47])) (byt (dgO o))).run Tryd.prog w = .ok (.string (byt (dgO t ++ [110] ++ S ++ dgO ap ++ [47] ++ dgO o))) w := fun w => byt_add _ _ (by simp; omega) w
      have hadd6 : ∀ w, (Op.stringOp .add (byt P) (byt (dgO t ++ [110] ++ S ++ dgO ap ++ [47] ++ dgO o))).run Tryd.prog w = .ok (.string (byt (P ++ (dgO t ++ [110] ++ S ++ dgO ap ++ [47] ++ dgO o)))) w := fun w => byt_add _ _ (by simp; omega) w
      rw [HFR.out] at HNJ
      generalize dgO t ++ [110] ++ S ++ dgO ap ++ [47] ++ dgO o = F6 at *
      generalize hf5 : dgO t ++ [110] ++ S ++ dgO ap ++ [47] = F5 at *
      generalize hf4 : dgO t ++ [110] ++ S ++ dgO ap = F4 at *
      generalize hf3 : dgO t ++ [110] ++ S = F3 at *
      generalize hf2 : dgO t ++ [110] = F2 at *
      clear hf5 hf4 hf3 hf2 HFR HPX hml hd1 hd2 hd3 hsl ha1 ha2 hpt hT hAP hpl HML HNX
      go_upto_if 16 with fail
      go_cut [3] from 16 to 18 (fun s3 wx => s3 = .string (byt P) ∧ Hid ((wr.alloc (.cells #[.int .i64 t, .int .i64 p, .int .i64 o] 118)) = wx))
      case first =>
        by_cases hj0 : j = 0
        · have hj1 : decide (0 < j) = false := by simp; omega
          have e := Lib.hid (hP0.out hj0)
          have HJ0 := Lib.hid hj0
          clear hj0
          go_wp2_with fail
          all_goals first
            | (exfalso; have h9 := HJ0.out; omega)
            | (go_meet; case rel => exact ⟨congrArg (fun q => Value.string (byt q)) e.out.symm, Lib.hid rfl⟩)
        · have hj1 : decide (0 < j) = true := by simp; omega
          have HE := Lib.hid (hP1.out (by omega))
          have HJ0 := Lib.hid hj0
          clear hj0
          go_wp2_with fail
          all_goals first
            | (exfalso; have h9 := HJ0.out; omega)
            | (go_meet; case rel => exact ⟨congrArg (fun q => Value.string (byt q)) HE.out, Lib.hid rfl⟩)
      case rest =>
        obtain ⟨rfl, hwx⟩ := hcut
        have hwx2 := hwx.out
        subst hwx2
        clear hwx
        go_upto_if 21 with fail
        go_cut [6] from 21 to 21 (fun s6 wx => s6 = .string (byt S) ∧ Hid ((wr.alloc (.cells #[.int .i64 t, .int .i64 p, .int .i64 o] 118)) = wx))
        case first =>
          by_cases hp : p < 0
          · have HE := Lib.hid (HSG.out hp)
            go_wp2_with fail
            go_meet
            case rel => exact ⟨by rw [HE.out]; rfl, Lib.hid rfl⟩
          · have HE := Lib.hid (HSG2.out hp)
            go_wp2_with fail
            go_meet
            case rel => exact ⟨by rw [HE.out]; rfl, Lib.hid rfl⟩
        case rest =>
          obtain ⟨rfl, hwx⟩ := hcut
          have hwx2 := hwx.out
          subst hwx2
          clear hwx
          go_upto_region 10 with fail
          clear p0 k0 k1 k2 hne hne2 hge hj0 hadd HSG HSG2 hSP
          have q0 : (wr.alloc (.cells #[.int .i64 t, .int .i64 p, .int .i64 o] 118)).cell? ⟨wr.heap.size, 0, none⟩ = some (.int .i64 t) := by go_simp
          have q1 : (wr.alloc (.cells #[.int .i64 t, .int .i64 p, .int .i64 o] 118)).cell? ⟨wr.heap.size, 1, none⟩ = some (.int .i64 p) := by go_simp
          have q2 : (wr.alloc (.cells #[.int .i64 t, .int .i64 p, .int .i64 o] 118)).cell? ⟨wr.heap.size, 2, none⟩ = some (.int .i64 o) := by go_simp
          go_region_law (go_simp; first
            | (go_at_call 119; refine (HAB.out _).mono ?_; rintro e w9 ⟨rfl, rfl⟩)
            | (go_at_call 95; refine (HC.out _ (by first | exact HXB.out | exact HYB.out | exact HZB.out) _).mono ?_; rintro e w3 ⟨rfl, hb3⟩; (first
              | (have HB5 : Hid (Below (wr.alloc (.cells #[.int .i64 t, .int .i64 p, .int .i64 o] 118)).heap.size (wr.alloc (.cells #[.int .i64 t, .int .i64 p, .int .i64 o] 118)) w3) := Lib.hid (HB4.out.trans (by first | exact hb3.mono HB4.out.size | exact ((Below.refl _ _).drew.trans hb3).mono HB4.out.size | exact ((Below.refl _ _).drew.drew.trans hb3).mono HB4.out.size)); clear hb3; obtain ⟨⟨m0, m1, m2⟩, _, _⟩ := one_block HB5.out)
              | (have HB4 : Hid (Below (wr.alloc (.cells #[.int .i64 t, .int .i64 p, .int .i64 o] 118)).heap.size (wr.alloc (.cells #[.int .i64 t, .int .i64 p, .int .i64 o] 118)) w3) := Lib.hid (HB3.out.trans (by first | exact hb3.mono HB3.out.size | exact ((Below.refl _ _).drew.trans hb3).mono HB3.out.size | exact ((Below.refl _ _).drew.drew.trans hb3).mono HB3.out.size)); clear hb3; obtain ⟨⟨m0, m1, m2⟩, _, _⟩ := one_block HB4.out)
              | (have HB3 : Hid (Below (wr.alloc (.cells #[.int .i64 t, .int .i64 p, .int .i64 o] 118)).heap.size (wr.alloc (.cells #[.int .i64 t, .int .i64 p, .int .i64 o] 118)) w3) := Lib.hid (by first | exact hb3 | exact (Below.refl _ _).drew.trans hb3 | exact (Below.refl _ _).drew.drew.trans hb3); clear hb3; obtain ⟨⟨m0, m1, m2⟩, _, _⟩ := one_block HB3.out))))
          all_goals
            go_wp2_with fail
          all_goals exact ⟨⟨j + 1, hlt, by go_num, by rw [HNJ.out], (by first | exact HBn.out.kept HB5.out | exact HBn.out.kept HB5.out.drew | exact HBn.out.kept HB5.out.drew.drew), (by first | exact HRn.out.trans (HB5.out.mono HRn.out.size) | exact (HRn.out.trans (HB5.out.mono HRn.out.size)).drew | exact (HRn.out.trans (HB5.out.mono HRn.out.size)).drew.drew)⟩, by simp [RowKit.intOf]; omega⟩
    · obtain rfl : j = K := by omega
      have hlt2 : ¬ ((j : Int) < (j : Int)) := by omega
      clear hb hbo
      go_wp2_with fail
      go_ret
      exact ⟨rfl, HBR.out⟩
end Go.Proofs.YtgobjobppajkbaaDoor
