/-
  'omText' of parts whose numbers are -1 up to 999999 (gen_otv.py).
-/
import Derived.Test.YtgobjobppajkbaaDoorOtS
import Derived.Test.YtgobjobppajkbaaDoorOpM
namespace Go.Proofs.YtgobjobppajkbaaDoor
open Go.RowKit
set_option linter.unusedVariables false

theorem l1Num_m1 (w : World) : Calls Tryd.prog 95 #[.int .i64 (-1)] w fun e w' => e = .returned (.string (byt [47])) ∧ Below w.heap.size w w' := by
  have hconv := conv_one w 47 47 rfl rfl
  go_enter Tryd.func95, Tryd.ntmps95
  go_wp2_with fail
  go_ret
  exact ⟨rfl, (Below.refl w.heap.size w).alloc (Nat.le_refl _) _⟩
theorem l1Num_w (x : Int) (hx : -1 ≤ x ∧ x ≤ 999999) (w : World) : Calls Tryd.prog 95 #[.int .i64 x] w fun e w' => e = .returned (.string (byt (dgN x))) ∧ Below w.heap.size w w' := by
  by_cases h : x < 0
  · obtain rfl : x = -1 := by omega
    exact l1Num_m1 w
  · rw [dgN_pos (by omega), dgO]
    have := l1Num_all (x.toNat + 1) x.toNat (by omega) (by omega) w
    rwa [show ((x.toNat : Nat) : Int) = x by omega] at this
/-- A part in such bounds. -/
def ptU (q : Pt) : Prop := -1 ≤ q.1 ∧ q.1 ≤ 999999 ∧ -20 ≤ q.2.1 ∧ q.2.1 ≤ 20 ∧ -1 ≤ q.2.2 ∧ q.2.2 ≤ 999999
def ptV3 (q : Pt) : List UInt8 := dgN q.1 ++ [110] ++ sgO q.2.1 ++ dgN (absO q.2.1) ++ [47] ++ dgN q.2.2
theorem ptV3_eq (t p o : Int) : ptV3 (t, p, o) = ptV t p o := by
  rw [ptV3, ptV, dgN_pos (x := absO p) (by unfold absO; split <;> omega)]
def otV (ps : List Pt) (j : Nat) : List UInt8 := Lib.join ((List.range j).map fun i => ptV3 (ps.getD i pt0)) [59]
def otU (ps : List Pt) (j : Nat) : List UInt8 := if j = 0 then [] else otV ps j ++ [59]
theorem otV_zero (ps : List Pt) : otV ps 0 = [] := rfl
theorem otU_next (ps : List Pt) (j : Nat) : otV ps (j + 1) = otU ps j ++ ptV3 (ps.getD j pt0) := by
  unfold otU
  rcases Nat.eq_zero_or_pos j with rfl | h
  · rw [if_pos rfl]
    simp [otV, List.range_succ, Lib.join_one]
  · rw [if_neg (by omega)]
    unfold otV
    rw [List.range_succ, List.map_append, List.map_singleton, join_snoc _ _ _ (by intro e; have := congrArg List.length e; simp at this; omega)]
theorem ptV3_len {q : Pt} (h : ptU q) : (ptV3 q).length ≤ 17 := by
  obtain ⟨h1, h2, h3, h4, h5, h6⟩ := h
  obtain ⟨t, p, o⟩ := q
  rw [ptV3_eq]
  exact ptV_len h2 h3 h4 h6
theorem otV_len {ps : List Pt} {K : Nat} (h : ∀ i, i < K → ptU (ps.getD i pt0)) : ∀ j, j ≤ K → (otV ps j).length ≤ 18 * j := by
  intro j
  induction j with
  | zero => intro _; simp [otV_zero]
  | succ j ih =>
    intro hj
    have h1 := ih (by omega)
    have h2 := ptV3_len (h j (by omega))
    rw [otU_next, List.length_append]
    generalize (ptV3 (ps.getD j pt0)).length = L at *
    unfold otU
    split
    · simp only [List.length_nil]; omega
    · simp only [List.length_append, List.length_cons, List.length_nil]; omega

set_option maxRecDepth 100000 in
set_option maxHeartbeats 8000000 in
theorem omTextV_any (ps : List Pt) (v : Value) (w : World) (hg : (1 ≤ ps.length ∧ ps.length ≤ 8) ∧ ∀ i, i < ps.length → ptU (ps.getD i pt0)) (h : OthIn w v ps) :
    Calls Tryd.prog 88 #[v] w fun e w' => e = .returned (.string (byt (otV ps ps.length))) ∧ Below w.heap.size w w' := by
  obtain ⟨a, c, rfl, hx⟩ := h.rd
  have hl8 := hg.1
  have HX := Lib.hid hx
  have HIN := Lib.hid hg.2
  have HML := Lib.hid (otV_len (ps := ps) (K := ps.length) HIN.out)
  have HNX := Lib.hid (fun j => otU_next ps j)
  obtain ⟨K, hK⟩ : ∃ K, ps.length = K := ⟨_, rfl⟩
  rw [hK] at HX HIN HML hl8 ⊢
  obtain ⟨hK1, hK2⟩ := hl8
  have HB := Lib.hid (below_new w (.cells #[.slice a K c] 42))
  have HBo := Lib.hid (Bo.new w (.slice a K c) 42)
  clear hg h hx hK
  go_enter Tryd.func88, Tryd.ntmps88
  go_wp2_with fail
  go_loopw [3, 4, 5, 6, 10] (fun o _ _ _ i wr => ∃ j : Nat, j ≤ K ∧ i = .int .i64 j ∧ o = .string (byt (otV ps j)) ∧ Bo wr w.heap.size (.slice a K c) ∧ Below w.heap.size w wr) (fun _ _ _ _ i _ => K - (RowKit.intOf i).toNat)
  case atStart => exact ⟨0, Nat.zero_le _, rfl, rfl, HBo.out, HB.out⟩
  case round =>
    clear HBo HB
    obtain ⟨j, hj, rfl, rfl, hbo, hb⟩ := hrel
    have HBR := Lib.hid hb
    have HBO := Lib.hid hbo
    by_cases hlt : j < K
    · obtain ⟨g, rfl, hgl, q⟩ := HX.out j hlt
      have q2 := q.of (hb.block g hgl)
      have hin := HIN.out j hlt
      have HPX := Lib.hid (ptV3_len hin)
      have HNJ := Lib.hid (HNX.out j)
      have hml := HML.out j hj
      have hin2 := hin
      obtain ⟨p0, p1⟩ := hbo
      clear q hb hin
      obtain ⟨pt, hpt⟩ : ∃ pt, ps.getD j pt0 = pt := ⟨_, rfl⟩
      rw [hpt] at q2 hin2 HNJ HPX
      obtain ⟨t, p, o⟩ := pt
      obtain ⟨k0, k1, k2⟩ := q2
      dsimp only at k0 k1 k2
      unfold ptU at hin2
      dsimp only at hin2
      obtain ⟨i1, i2, i3, i4, i5, i6⟩ := hin2
      have hlt2 : (j : Int) < (K : Int) := by omega
      have hj0 : (0 : Int) ≤ (j : Int) := by omega
      have hne : ¬ (w.heap.size = wr.heap.size) := by omega
      have hne2 : ¬ (wr.heap.size = w.heap.size) := by omega
      have hge : ¬ (g = wr.heap.size) := by omega
      have HBn := Lib.hid (HBO.out.grow (.cells #[.int .i64 t, .int .i64 p, .int .i64 o] 118))
      have HRn := Lib.hid (HBR.out.trans ((below_new wr (.cells #[.int .i64 t, .int .i64 p, .int .i64 o] 118)).mono HBR.out.size))
      have hpl : (otU ps j).length ≤ 18 * j + 1 := by
        unfold otU
        split
        · simp
        · simp; omega
      have hP0 : Hid (j = 0 → otU ps j = otV ps j) := Lib.hid (fun e => by subst e; rfl)
      have hP1 : Hid (0 < j → otV ps j ++ [59] = otU ps j) := Lib.hid (fun e => by rw [otU, if_neg (by omega)])
      generalize otU ps j = P at *
      generalize hT : otV ps j = T at *
      have HFR : Hid (ptV3 (t, p, o) = dgN t ++ [110] ++ sgO p ++ dgN (absO p) ++ [47] ++ dgN o) := Lib.hid rfl
      have ha1 : 0 ≤ absO p := by unfold absO; split <;> omega
      have ha2 : absO p ≤ 20 := by unfold absO; split <;> omega
      have HSG : Hid (p < 0 → sgO p = [45]) := Lib.hid (fun h => by rw [sgO, if_pos h])
      have HSG2 : Hid (¬ p < 0 → sgO p = [43]) := Lib.hid (fun h => by rw [sgO, if_neg h])
      have hsl : (sgO p).length = 1 := by unfold sgO; split <;> rfl
      have hd1 := dgN_len i2
      have hd2 := dgN_len (x := absO p) (by omega)
      have hd3 := dgN_len i6
      have HXB : Hid (-1 ≤ t ∧ t ≤ 999999) := Lib.hid (by omega)
      have HYB : Hid (-1 ≤ absO p ∧ absO p ≤ 999999) := Lib.hid (by omega)
      have HZB : Hid (-1 ≤ o ∧ o ≤ 999999) := Lib.hid (by omega)
      have HC := Lib.hid (fun x hx w => l1Num_w x hx w)
      have HAB := Lib.hid (fun w => l1Abs_o p i3 i4 w)
      generalize hAP : absO p = ap at *
      generalize hSP : sgO p = S at *
      have hadd : ∀ w, (Op.stringOp .add (byt T) ⟨#[59]⟩).run Tryd.prog w = .ok (.string (byt (T ++ [59]))) w := fun w => byt_add T [59] (by simp; omega) w
      have hadd1 : ∀ w, (Op.stringOp .add (byt (dgN t)) ⟨#[110]⟩).run Tryd.prog w = .ok (.string (byt (dgN t ++ [110]))) w := fun w => byt_add _ [110] (by simp; omega) w
      have hadd2 : ∀ w, (Op.stringOp .add (byt (dgN t ++ [110])) (byt S)).run Tryd.prog w = .ok (.string (byt (dgN t ++ [110] ++ S))) w := fun w => byt_add _ _ (by simp; omega) w
      have hadd3 : ∀ w, (Op.stringOp .add (byt (dgN t ++ [110] ++ S)) (byt (dgN ap))).run Tryd.prog w = .ok (.string (byt (dgN t ++ [110] ++ S ++ dgN ap))) w := fun w => byt_add _ _ (by simp; omega) w
      have hadd4 : ∀ w, (Op.stringOp .add (byt (dgN t ++ [110] ++ S ++ dgN ap)) ⟨#[47]⟩).run Tryd.prog w = .ok (.string (byt (dgN t ++ [110] ++ S ++ dgN ap ++ [47]))) w := fun w => byt_add _ [47] (by simp; omega) w
      have hadd5 : ∀ w, (Op.stringOp .add (byt (dgN t ++ [110] ++ S ++ dgN ap ++ [47])) (byt (dgN o))).run Tryd.prog w = .ok (.string (byt (dgN t ++ [110] ++ S ++ dgN ap ++ [47] ++ dgN o))) w := fun w => byt_add _ _ (by simp; omega) w
      have hadd6 : ∀ w, (Op.stringOp .add (byt P) (byt (dgN t ++ [110] ++ S ++ dgN ap ++ [47] ++ dgN o))).run Tryd.prog w = .ok (.string (byt (P ++ (dgN t ++ [110] ++ S ++ dgN ap ++ [47] ++ dgN o)))) w := fun w => byt_add _ _ (by simp; omega) w
      rw [HFR.out] at HNJ
      generalize dgN t ++ [110] ++ S ++ dgN ap ++ [47] ++ dgN o = F6 at *
      generalize hf5 : dgN t ++ [110] ++ S ++ dgN ap ++ [47] = F5 at *
      generalize hf4 : dgN t ++ [110] ++ S ++ dgN ap = F4 at *
      generalize hf3 : dgN t ++ [110] ++ S = F3 at *
      generalize hf2 : dgN t ++ [110] = F2 at *
      clear hf5 hf4 hf3 hf2 HFR HPX hml hd1 hd2 hd3 hsl ha1 ha2 hpt hT hAP hpl HML HNX
      go_upto_if 16 with fail
      go_cut [3] from 16 to 18 (fun s3 wx => s3 = .string (byt P) ∧ Hid ((wr.alloc (.cells #[.int .i64 t, .int .i64 p, .int .i64 o] 118)) = wx))
      case first =>
        by_cases hj0 : j = 0
        · have hj1 : decide (0 < j) = false := by simp; omega
          have e := Lib.hid (hP0.out hj0)
          have HJ0 := Lib.hid hj0
          clear hj0
          go_wp2_with fail
          all_goals first
            | (exfalso; have h9 := HJ0.out; omega)
            | (go_meet; case rel => exact ⟨congrArg (fun q => Value.string (byt q)) e.out.symm, Lib.hid rfl⟩)
        · have hj1 : decide (0 < j) = true := by simp; omega
          have HE := Lib.hid (hP1.out (by omega))
          have HJ0 := Lib.hid hj0
          clear hj0
          go_wp2_with fail
          all_goals first
            | (exfalso; have h9 := HJ0.out; omega)
            | (go_meet; case rel => exact ⟨congrArg (fun q => Value.string (byt q)) HE.out, Lib.hid rfl⟩)
      case rest =>
        obtain ⟨rfl, hwx⟩ := hcut
        have hwx2 := hwx.out
        subst hwx2
        clear hwx
        go_upto_if 21 with fail
        go_cut [6] from 21 to 21 (fun s6 wx => s6 = .string (byt S) ∧ Hid ((wr.alloc (.cells #[.int .i64 t, .int .i64 p, .int .i64 o] 118)) = wx))
        case first =>
          by_cases hp : p < 0
          · have HE := Lib.hid (HSG.out hp)
            go_wp2_with fail
            go_meet
            case rel => exact ⟨by rw [HE.out]; rfl, Lib.hid rfl⟩
          · have HE := Lib.hid (HSG2.out hp)
            go_wp2_with fail
            go_meet
            case rel => exact ⟨by rw [HE.out]; rfl, Lib.hid rfl⟩
        case rest =>
          obtain ⟨rfl, hwx⟩ := hcut
          have hwx2 := hwx.out
          subst hwx2
          clear hwx
          go_upto_region 10 with fail
          clear p0 k0 k1 k2 hne hne2 hge hj0 hadd HSG HSG2 hSP
          have q0 : (wr.alloc (.cells #[.int .i64 t, .int .i64 p, .int .i64 o] 118)).cell? ⟨wr.heap.size, 0, none⟩ = some (.int .i64 t) := by go_simp
          have q1 : (wr.alloc (.cells #[.int .i64 t, .int .i64 p, .int .i64 o] 118)).cell? ⟨wr.heap.size, 1, none⟩ = some (.int .i64 p) := by go_simp
          have q2 : (wr.alloc (.cells #[.int .i64 t, .int .i64 p, .int .i64 o] 118)).cell? ⟨wr.heap.size, 2, none⟩ = some (.int .i64 o) := by go_simp
          go_region_law (go_simp; first
            | (go_at_call 119; refine (HAB.out _).mono ?_; rintro e w9 ⟨rfl, rfl⟩)
            | (go_at_call 95; refine (HC.out _ (by first | exact HXB.out | exact HYB.out | exact HZB.out) _).mono ?_; rintro e w3 ⟨rfl, hb3⟩; (first
              | (have HB5 : Hid (Below (wr.alloc (.cells #[.int .i64 t, .int .i64 p, .int .i64 o] 118)).heap.size (wr.alloc (.cells #[.int .i64 t, .int .i64 p, .int .i64 o] 118)) w3) := Lib.hid (HB4.out.trans (by first | exact hb3.mono HB4.out.size | exact ((Below.refl _ _).drew.trans hb3).mono HB4.out.size | exact ((Below.refl _ _).drew.drew.trans hb3).mono HB4.out.size)); clear hb3; obtain ⟨⟨m0, m1, m2⟩, _, _⟩ := one_block HB5.out)
              | (have HB4 : Hid (Below (wr.alloc (.cells #[.int .i64 t, .int .i64 p, .int .i64 o] 118)).heap.size (wr.alloc (.cells #[.int .i64 t, .int .i64 p, .int .i64 o] 118)) w3) := Lib.hid (HB3.out.trans (by first | exact hb3.mono HB3.out.size | exact ((Below.refl _ _).drew.trans hb3).mono HB3.out.size | exact ((Below.refl _ _).drew.drew.trans hb3).mono HB3.out.size)); clear hb3; obtain ⟨⟨m0, m1, m2⟩, _, _⟩ := one_block HB4.out)
              | (have HB3 : Hid (Below (wr.alloc (.cells #[.int .i64 t, .int .i64 p, .int .i64 o] 118)).heap.size (wr.alloc (.cells #[.int .i64 t, .int .i64 p, .int .i64 o] 118)) w3) := Lib.hid (by first | exact hb3 | exact (Below.refl _ _).drew.trans hb3 | exact (Below.refl _ _).drew.drew.trans hb3); clear hb3; obtain ⟨⟨m0, m1, m2⟩, _, _⟩ := one_block HB3.out))))
          all_goals
            go_wp2_with fail
          all_goals exact ⟨⟨j + 1, hlt, by go_num, by rw [HNJ.out], (by first | exact HBn.out.kept HB5.out | exact HBn.out.kept HB5.out.drew | exact HBn.out.kept HB5.out.drew.drew), (by first | exact HRn.out.trans (HB5.out.mono HRn.out.size) | exact (HRn.out.trans (HB5.out.mono HRn.out.size)).drew | exact (HRn.out.trans (HB5.out.mono HRn.out.size)).drew.drew)⟩, by simp [RowKit.intOf]; omega⟩
    · obtain rfl : j = K := by omega
      have hlt2 : ¬ ((j : Int) < (j : Int)) := by omega
      clear hb hbo
      go_wp2_with fail
      go_ret
      exact ⟨rfl, HBR.out⟩

/-- One part alone. -/
theorem omOne_any (t p o : Int) (v : Value) (w : World) (hq : ptU (t, p, o)) (h : OthIn w v [(t, p, o)]) :
    Calls Tryd.prog 88 #[v] w fun e w' => e = .returned (.string (byt (ptV t p o))) ∧ Below w.heap.size w w' := by
  have := omTextV_any [(t, p, o)] v w ⟨by simp, fun i hi => by obtain rfl : i = 0 := (by simpa using hi); exact hq⟩ h
  have e : otV [(t, p, o)] ([(t, p, o)] : List Pt).length = ptV t p o := by
    rw [← ptV3_eq]; simp [otV, List.range_succ, Lib.join_one]
  rwa [e] at this
end Go.Proofs.YtgobjobppajkbaaDoor
