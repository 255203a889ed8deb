/-
  THE WALK OF THE LAW 'RecordsFirst' ON BYTES: the draw, the calls, their condition, then the rest.
-/
import Derived.Test.YtponmblponfdaaaRbC
import Derived.Test.YtponmblponfdaaaRecP5
import Derived.Test.YtponmblponfdaaaRecN
namespace Go.Proofs.Ytponmblponfdaaa
open Go.RowKit
set_option linter.unusedVariables false
theorem rcl_300 (xs : List Int) (h : xs.length ≤ 300) : (rcL xs).length ≤ 300 := by have := rcL_len xs; omega
theorem rf_flags (t p k : Int) : (meanL (tabA needN t p k)).2.2 = anyR (rcL (tabA needN t p k)) ∧ (runL (tabA needN t p k)).2.2 = anyR (rcL (tabA needN t p k)) ∧ anyR (rcL (tabA peakN t p k)) = anyR (rcL (tabA needN t p k)) := by
  cases ha : askL t p k
  · rw [tabA_no ha, tabA_no ha]
    exact ⟨rfl, rfl, rfl⟩
  · obtain ⟨K, rfl, hlen, f⟩ := rf_facts ha
    have hm1 : ∀ j, j < K → -1 ≤ atL (tabA needN t p (K : Int)) j := fun j hj => (f.ab j hj).1
    have hrc : rcL (tabA needN t p (K : Int)) = recK (atL (tabA needN t p (K : Int))) K := by unfold rcL; rw [hlen]
    have hnil : (rcL (tabA needN t p (K : Int))).length = 0 ↔ ∀ j, j < K → atL (tabA needN t p (K : Int)) j = -1 := by rw [hrc, List.length_eq_zero_iff, recK_nil hm1]
    have hany := f.t3
    have hbp : ∀ j, j < (tabA peakN t p (K : Int)).length → -1 ≤ atL (tabA peakN t p (K : Int)) j := fun j hj => (bnd_peak t p K j hj).1
    have hokp : RecOk (rcL (tabA peakN t p (K : Int))) := by unfold rcL; exact recK_ok hbp
    refine ⟨?_, ?_, ?_⟩
    · rw [hany, meanL, hlen]
      by_cases hc : cntK (atL (tabA needN t p (K : Int))) K = 0
      · rw [if_pos hc, hnil.2 (cntK_zero.1 hc)]; rfl
      · rw [if_neg hc]
        have : ¬ (rcL (tabA needN t p (K : Int))).length = 0 := fun e => hc (cntK_zero.2 (hnil.1 e))
        exact (decide_eq_true (by omega)).symm
    · rw [hany]
      show anyR (runK (atL (tabA needN t p (K : Int))) (tabA needN t p (K : Int)).length) = _
      rw [hlen, Bool.eq_iff_iff, anyR_iff (runK_ok _ _), decide_eq_true_eq]
      constructor
      · intro h
        refine Nat.pos_of_ne_zero (fun e => ?_)
        rw [runK_nil.2 (hnil.1 e)] at h
        simp at h
      · intro h
        refine Nat.pos_of_ne_zero (fun e => ?_)
        have := hnil.2 (runK_nil.1 (List.length_eq_zero_iff.1 e))
        omega
    · rw [hany, Bool.eq_iff_iff, anyR_iff hokp, decide_eq_true_eq]
      have := f.RS
      omega

set_option maxRecDepth 100000 in
set_option maxHeartbeats 16000000 in
theorem fnRecordsFirst_law (vc vm : Value) (w : World) (hc : BytesAny w vc) (hm : BytesAny w vm) :
    Calls Try.prog 3 #[vc, vm] w fun e w' => e = .returned (.bool true) ∧ Below w.heap.size w w' := by
  obtain ⟨a1, n1, k1, rfl, hx1⟩ := hc
  obtain ⟨a2, n2, k2, rfl, hx2⟩ := hm
  have HBG := Lib.hid (fun w => big_any a1 a2 n1 n2 k1 k2 w)
  cases hbg : bigB n1 n2
  case true =>
    rw [hbg] at HBG
    clear hx1 hx2 hbg
    go_enter Try.func3, Try.ntmps3
    go_wp2_with (go_at_call 4; refine (HBG.out _).mono ?_; rintro e w' ⟨rfl, rfl⟩)
    go_ret
    exact ⟨rfl, Below.refl _ _⟩
  rw [hbg] at HBG
  have hbn : ¬ (1048576 < (n1 : Int)) ∧ ¬ (1048576 - (n1 : Int) < (n2 : Int)) := by
    unfold bigB at hbg
    rw [Bool.or_eq_false_iff] at hbg
    exact ⟨of_decide_eq_false hbg.1, of_decide_eq_false hbg.2⟩
  have HC : Hid (BytesArg w (.slice a1 n1 k1)) := Lib.hid (BytesAny.small ⟨a1, n1, k1, rfl, hx1⟩ (by omega))
  have HM : Hid (BytesArg w (.slice a2 n2 k2)) := Lib.hid (BytesAny.small ⟨a2, n2, k2, rfl, hx2⟩ (by omega))
  clear hx1 hx2 hbg hbn
  go_enter Try.func3, Try.ntmps3
  go_wp2_with fail
  refine (HBG.out _).mono ?_
  rintro e w' ⟨rfl, rfl⟩
  clear HBG
  go_wp2_with fail
  refine (DrawStepRecords_any _ _ HC.out).mono ?_
  rintro e w0 ⟨t, p, k0, rfl, hb⟩
  have MM := Lib.hid (Two9.new w0 t p 25)
  have B := Lib.hid (hb.trans ((below_newR w0 (.cells #[.int .i64 t, .int .i64 p] 25)).mono hb.size))
  clear hb HC
  have C1 := Lib.hid (fun W => iStepRecords t p k0 W)
  have C2 := Lib.hid (fun W => sStepRecords t p k0 W)
  have C3 := Lib.hid (fun W => iStepsList t p k0 W)
  have C4 := Lib.hid (fun W => sStepsList t p k0 W)
  have C5 := Lib.hid (fun W => iSlowestUpTo t p k0 W)
  have C6 := Lib.hid (fun W => sSlowestUpTo t p k0 W)
  have C7 := Lib.hid (fun W => iPeakRecords t p k0 W)
  have C8 := Lib.hid (fun W => sPeakRecords t p k0 W)
  have C9 := Lib.hid (fun W => iMeanSteps t p k0 W)
  have C10 := Lib.hid (fun W => sMeanSteps t p k0 W)
  have C11 := Lib.hid (fun W => iLongestRun t p k0 W)
  have C12 := Lib.hid (fun W => sLongestRun t p k0 W)
  have C13 := Lib.hid (fun W => iPeakOfAll t p k0 W)
  have C14 := Lib.hid (fun W => sPeakOfAll t p k0 W)
  obtain ⟨fl1, fl2, fl3⟩ := rf_flags t p k0
  unfold RetMost at C5 C6 C13 C14
  unfold Ret3 at C9 C10 C11 C12
  rw [fl1] at C9 C10
  rw [fl2] at C11 C12
  rw [fl3] at C13 C14
  clear fl1 fl2 fl3
  have HNL : Hid (anyR (rcL (tabA needN t p k0)) = true → askL t p k0 = true) := Lib.hid (fun h => any_ask h)
  have q0 := MM.out.c0
  have q1 := MM.out.c1
  go_wp2_with fail
  refine (C1.out _).mono ?_
  rintro e w1 ⟨v1, rfl, hr, hb⟩
  replace MM := Lib.hid (MM.out.kept hb)
  replace B := Lib.hid (B.out.trans (hb.mono B.out.size))
  clear q0 q1
  have R1 := Lib.hid hr
  clear hr
  clear hb
  have q0 := MM.out.c0
  have q1 := MM.out.c1
  go_wp2_with fail
  refine (C2.out _).mono ?_
  rintro e w2 ⟨v2, rfl, hr, hb⟩
  replace MM := Lib.hid (MM.out.kept hb)
  replace R1 := Lib.hid (R1.out.kept hb)
  replace B := Lib.hid (B.out.trans (hb.mono B.out.size))
  clear q0 q1
  have R2 := Lib.hid hr
  clear hr
  clear hb
  have q0 := MM.out.c0
  have q1 := MM.out.c1
  go_wp2_with fail
  refine (C3.out _).mono ?_
  rintro e w3 ⟨v3, rfl, hr, hb⟩
  replace MM := Lib.hid (MM.out.kept hb)
  replace R1 := Lib.hid (R1.out.kept hb)
  replace R2 := Lib.hid (R2.out.kept hb)
  replace B := Lib.hid (B.out.trans (hb.mono B.out.size))
  clear q0 q1
  have R3 := Lib.hid hr.isIn
  clear hr
  clear hb
  have q0 := MM.out.c0
  have q1 := MM.out.c1
  go_wp2_with fail
  refine (C4.out _).mono ?_
  rintro e w4 ⟨v4, rfl, hr, hb⟩
  replace MM := Lib.hid (MM.out.kept hb)
  replace R1 := Lib.hid (R1.out.kept hb)
  replace R2 := Lib.hid (R2.out.kept hb)
  replace R3 := Lib.hid (R3.out.kept hb)
  replace B := Lib.hid (B.out.trans (hb.mono B.out.size))
  clear q0 q1
  have R4 := Lib.hid hr.isIn
  clear hr
  clear hb
  have q0 := MM.out.c0
  have q1 := MM.out.c1
  go_wp2_with fail
  refine (C5.out _).mono ?_
  rintro e w5 ⟨rfl, hb⟩
  replace MM := Lib.hid (MM.out.kept hb)
  replace R1 := Lib.hid (R1.out.kept hb)
  replace R2 := Lib.hid (R2.out.kept hb)
  replace R3 := Lib.hid (R3.out.kept hb)
  replace R4 := Lib.hid (R4.out.kept hb)
  replace B := Lib.hid (B.out.trans (hb.mono B.out.size))
  clear q0 q1
  clear hb
  have q0 := MM.out.c0
  have q1 := MM.out.c1
  go_wp2_with fail
  refine (C6.out _).mono ?_
  rintro e w6 ⟨rfl, hb⟩
  replace MM := Lib.hid (MM.out.kept hb)
  replace R1 := Lib.hid (R1.out.kept hb)
  replace R2 := Lib.hid (R2.out.kept hb)
  replace R3 := Lib.hid (R3.out.kept hb)
  replace R4 := Lib.hid (R4.out.kept hb)
  replace B := Lib.hid (B.out.trans (hb.mono B.out.size))
  clear q0 q1
  clear hb
  have q0 := MM.out.c0
  have q1 := MM.out.c1
  go_wp2_with fail
  refine (C7.out _).mono ?_
  rintro e w7 ⟨v7, rfl, hr, hb⟩
  replace MM := Lib.hid (MM.out.kept hb)
  replace R1 := Lib.hid (R1.out.kept hb)
  replace R2 := Lib.hid (R2.out.kept hb)
  replace R3 := Lib.hid (R3.out.kept hb)
  replace R4 := Lib.hid (R4.out.kept hb)
  replace B := Lib.hid (B.out.trans (hb.mono B.out.size))
  clear q0 q1
  have R7 := Lib.hid hr
  clear hr
  clear hb
  have q0 := MM.out.c0
  have q1 := MM.out.c1
  go_wp2_with fail
  refine (C8.out _).mono ?_
  rintro e w8 ⟨v8, rfl, hr, hb⟩
  replace MM := Lib.hid (MM.out.kept hb)
  replace R1 := Lib.hid (R1.out.kept hb)
  replace R2 := Lib.hid (R2.out.kept hb)
  replace R3 := Lib.hid (R3.out.kept hb)
  replace R4 := Lib.hid (R4.out.kept hb)
  replace R7 := Lib.hid (R7.out.kept hb)
  replace B := Lib.hid (B.out.trans (hb.mono B.out.size))
  clear q0 q1
  have R8 := Lib.hid hr
  clear hr
  clear hb
  have q0 := MM.out.c0
  have q1 := MM.out.c1
  go_wp2_with fail
  refine (C9.out _).mono ?_
  rintro e w9 ⟨rfl, hb⟩
  replace MM := Lib.hid (MM.out.kept hb)
  replace R1 := Lib.hid (R1.out.kept hb)
  replace R2 := Lib.hid (R2.out.kept hb)
  replace R3 := Lib.hid (R3.out.kept hb)
  replace R4 := Lib.hid (R4.out.kept hb)
  replace R7 := Lib.hid (R7.out.kept hb)
  replace R8 := Lib.hid (R8.out.kept hb)
  replace B := Lib.hid (B.out.trans (hb.mono B.out.size))
  clear q0 q1
  clear hb
  have q0 := MM.out.c0
  have q1 := MM.out.c1
  go_wp2_with fail
  refine (C10.out _).mono ?_
  rintro e w10 ⟨rfl, hb⟩
  replace MM := Lib.hid (MM.out.kept hb)
  replace R1 := Lib.hid (R1.out.kept hb)
  replace R2 := Lib.hid (R2.out.kept hb)
  replace R3 := Lib.hid (R3.out.kept hb)
  replace R4 := Lib.hid (R4.out.kept hb)
  replace R7 := Lib.hid (R7.out.kept hb)
  replace R8 := Lib.hid (R8.out.kept hb)
  replace B := Lib.hid (B.out.trans (hb.mono B.out.size))
  clear q0 q1
  clear hb
  have q0 := MM.out.c0
  have q1 := MM.out.c1
  go_wp2_with fail
  refine (C11.out _).mono ?_
  rintro e w11 ⟨rfl, hb⟩
  replace MM := Lib.hid (MM.out.kept hb)
  replace R1 := Lib.hid (R1.out.kept hb)
  replace R2 := Lib.hid (R2.out.kept hb)
  replace R3 := Lib.hid (R3.out.kept hb)
  replace R4 := Lib.hid (R4.out.kept hb)
  replace R7 := Lib.hid (R7.out.kept hb)
  replace R8 := Lib.hid (R8.out.kept hb)
  replace B := Lib.hid (B.out.trans (hb.mono B.out.size))
  clear q0 q1
  clear hb
  have q0 := MM.out.c0
  have q1 := MM.out.c1
  go_wp2_with fail
  refine (C12.out _).mono ?_
  rintro e w12 ⟨rfl, hb⟩
  replace MM := Lib.hid (MM.out.kept hb)
  replace R1 := Lib.hid (R1.out.kept hb)
  replace R2 := Lib.hid (R2.out.kept hb)
  replace R3 := Lib.hid (R3.out.kept hb)
  replace R4 := Lib.hid (R4.out.kept hb)
  replace R7 := Lib.hid (R7.out.kept hb)
  replace R8 := Lib.hid (R8.out.kept hb)
  replace B := Lib.hid (B.out.trans (hb.mono B.out.size))
  clear q0 q1
  clear hb
  have q0 := MM.out.c0
  have q1 := MM.out.c1
  go_wp2_with fail
  refine (C13.out _).mono ?_
  rintro e w13 ⟨rfl, hb⟩
  replace MM := Lib.hid (MM.out.kept hb)
  replace R1 := Lib.hid (R1.out.kept hb)
  replace R2 := Lib.hid (R2.out.kept hb)
  replace R3 := Lib.hid (R3.out.kept hb)
  replace R4 := Lib.hid (R4.out.kept hb)
  replace R7 := Lib.hid (R7.out.kept hb)
  replace R8 := Lib.hid (R8.out.kept hb)
  replace B := Lib.hid (B.out.trans (hb.mono B.out.size))
  clear q0 q1
  clear hb
  have q0 := MM.out.c0
  have q1 := MM.out.c1
  go_wp2_with fail
  refine (C14.out _).mono ?_
  rintro e w14 ⟨rfl, hb⟩
  replace MM := Lib.hid (MM.out.kept hb)
  replace R1 := Lib.hid (R1.out.kept hb)
  replace R2 := Lib.hid (R2.out.kept hb)
  replace R3 := Lib.hid (R3.out.kept hb)
  replace R4 := Lib.hid (R4.out.kept hb)
  replace R7 := Lib.hid (R7.out.kept hb)
  replace R8 := Lib.hid (R8.out.kept hb)
  replace B := Lib.hid (B.out.trans (hb.mono B.out.size))
  clear q0 q1
  clear hb
  clear C1 C2 C3 C4 C5 C6 C7 C8 C9 C10 C11 C12 C13 C14
  go_upto_region 18 with fail
  try simp only [List.append_eq, List.cons_append, List.nil_append]
  go_cut [310] from 188 to 310 (fun s305 wx => s305 = .bool false ∧ Hid (Below w14.heap.size w14 wx))
  case first =>
    have HS1 := Lib.hid (fun W (hb : Below w14.heap.size w14 W) => vRows_any _ v1 v2 _ _ W (rcl_300 _ (tabA_len needN t p k0)) (R1.out.kept hb) (R2.out.kept hb))
    have HS2 := Lib.hid (fun W (hb : Below w14.heap.size w14 W) => vSame_any _ v3 v4 W (by have := tabA_len needN t p k0; omega) (R3.out.kept hb) (R4.out.kept hb))
    have HS3 := Lib.hid (fun W (hb : Below w14.heap.size w14 W) => vRows_any _ v7 v8 _ _ W (rcl_300 _ (tabA_len peakN t p k0)) (R7.out.kept hb) (R8.out.kept hb))
    clear MM B HM R1 R2 R3 R4 R7 R8
    generalize askL t p k0 = ok at *
    generalize anyR (rcL (tabA needN t p k0)) = three at *
    cases ok <;> cases three
    all_goals first
      | (exact absurd (HNL.out rfl) (by decide))
      | skip
    all_goals
      clear HNL
      go_wp2_with fail
      refine (HS1.out _ (Below.refl _ _)).mono ?_
      rintro e wa ⟨rfl, hba⟩
      have HBa := Lib.hid hba
      clear hba HS1
      go_wp2_with fail
      refine (HS2.out _ HBa.out).mono ?_
      rintro e wb ⟨rfl, hbb⟩
      have HBb := Lib.hid (HBa.out.trans (hbb.mono HBa.out.size))
      clear hbb HS2 HBa
      go_wp2_with fail
      refine (HS3.out _ HBb.out).mono ?_
      rintro e wc ⟨rfl, hbc⟩
      have HBc := Lib.hid (HBb.out.trans (hbc.mono HBb.out.size))
      clear hbc HS3 HBb
      go_wp2_with fail
      go_meet
      case rel => exact ⟨rfl, HBc⟩
  case rest =>
    obtain ⟨rfl, hb⟩ := hcut
    have hb := hb.out
    clear HNL
    go_upto_if 310 with fail
    go_cut [] from 310 to 310 (fun wx => Hid (Below w14.heap.size w14 wx))
    case first =>
      go_wp2_with fail
      go_meet
      case rel => exact Lib.hid hb
    case rest =>
      have hb := hcut.out
      obtain ⟨aR, cR, rfl, -⟩ := R1.out.at
      obtain ⟨aL, cL, rfl, -⟩ := R3.out
      obtain ⟨aK, cK, rfl, -⟩ := R7.out.at
      have HF : Hid (askL t p k0 = true → ∃ (K : Nat) (a bs : Nat → Int) (ns : Nat → Nat) (sm : Nat → Int) (cn : Nat → Nat), k0 = K ∧ K = (tabA needN t p k0).length ∧ RfK t p K a bs ns sm cn (anyR (rcL (tabA needN t p k0))) (lastR (rcL (tabA needN t p k0))).1 (lastR (rcL (tabA needN t p k0))).2 (lastR (rcL (tabA peakN t p k0))).1 (lastR (rcL (tabA peakN t p k0))).2 (meanL (tabA needN t p k0)).1 (meanL (tabA needN t p k0)).2.1 (runL (tabA needN t p k0)).1 (runL (tabA needN t p k0)).2.1 (rcL (tabA needN t p k0)).length (rcL (tabA peakN t p k0)).length ∧ RfC wc aR aK K a bs ns (anyR (rcL (tabA needN t p k0))) (lastR (rcL (tabA needN t p k0))).1 (lastR (rcL (tabA needN t p k0))).2 (lastR (rcL (tabA peakN t p k0))).1 (lastR (rcL (tabA peakN t p k0))).2 (rcL (tabA needN t p k0)).length (rcL (tabA peakN t p k0)).length ∧ ∀ m, m < K → ∃ g, aL = some ⟨g, 0, none⟩ ∧ g < wc.heap.size ∧ wc.cell? ⟨g, m, none⟩ = some (.int .i64 (a m))) := Lib.hid (fun ha => by
      obtain ⟨K, rfl, hlen, f⟩ := rf_facts ha
      have c := rf_cells ha (R1.out.kept hb) (R7.out.kept hb)
      obtain ⟨a4, c4, e4, h4⟩ := ((R3.out.kept hb)).at'
      injection e4 with e5 e6 e7
      subst e5
      refine ⟨K, _, _, _, _, _, rfl, hlen.symm, f, ?_, fun m hm => h4 m (by rw [hlen]; exact hm)⟩
      rw [hlen] at c
      exact c)
      refine ‹∀ (a : Act) (w : World), Code.wp _ _ _ a w → _› _ _ ?_
      exact rb_c _ t p k0 _ _ _ aL aR aK cL cR cK _ _ _ _ _ _ _ _ _ _ _ w _ (Lib.hid (MM.out.kept hb)) HM (Lib.hid (B.out.trans (hb.mono B.out.size))) HF _ _ _ _ _ _ _ _ _ _ _ _ _ _ _ _ _ _ _ _ _ _ _ _ _ _ _ _ _ _ _ _ _ _ _ _ _ _ _ _ _ _ _ _ _ _ _ _ _ _ _ _ _ _ _ _ _ _ _ _ _ _ _ _ _ _ _ _ _ _ _ _ _ _ _ _ _ _ _ _ _ _ _ _ _ _ _ _ _ _ _ _ _ _ _ _ _ _ _ _ _ _ _ _ _ _ _ _ _ _ _ _ _ _ _ _ _ _ _ _ _ _ _ _ _ _ _ _ _ _ _ _ _ _ _ _ _ _ _ _ _ _ _ _ _ _ _ _ _ _ _ _ _ _ _ _ _ _ _ _ _ _ _ _ _ _ _ _ _ _ _ _ _ _ _ _ _ _ _ _ _ _ _ _ _ _ _ _ _ _ _ _ _ _ _ _ _ _ _ _ _ _ _ _ _ _ _ _ _ _ _ _ _ _ _ _ _ _ _ _ _ _ _ _ _ _ _ _ _ _ _ _ _ _ _ _ _ _ _ _ _ _ _ _ _ _ _ _ _ _ _ _ _ _ _ _ _ _ _ _ _ _ _ _ _ _ _ _ _ _ _ _ _ _ _ _ _ _ _ _ _ _ _ _ _ _ _ _ _ _ _ _ _ _ _ _ _ _ _ _ _ _ _ _ _ _ _ _ _ _ _ _ _ _ _ _ _ _ _ _ _ _ _ _ _ _ _ _ _ _ _ _ _ _ _ _ _ _ _ _ _ _ _ _ _ _ _ _ _ _ _ _ _ _ _ _ _ _ _ _ _ _ _ _ _ _ _ _ _ _ _ _ _ _ _ _ _ _ _ _ _ _ _ _ _ _ _ _ _ _ _ _ _ _ _ _ _ _ _ _ _ _ _ _ _ _ _ _ _ _ _ _ _ _ _ _ _ _ _ _ _ _ _ _ _ _ _ _ _ _ _ _ _ _ _ _ _ _ _ _ _ _ _ _ _ _ _ _ _ _ _ _ _ _ _ _ _ _ _ _ _ _ _ _ _ _ _ _ _ _ _ _ _ _ _ _ _ _ _ _ _ _ _ _ _ _ _ _ _ _ _ _ _ _ _ _ _ _ _ _ _ _ _ _ _ _ _ _ _ _ _ _ _ _ _ _ _ _ _ _ _ _ _ _ _ _ _ _ _ _ _ _ _ _ _ _ _ _ _ _ _ _ _ _ _ _ _ _ _ _ _ _ _ _ _ _ _ _ _ _ _ _ _ _ _ _ _ _ _ _ _ _ _ _ _ _ _ _ _ _ _ _ _ _ _ _ _ _ _ _ _ _ _ _ _ _ _ _ _ _ _ _ _ _ _ _ _ _ _ _ _ _ _ _ _ _ _ _ _ _ _ _ _ _ _ _ _ _ _ _ _ _ _ _ _ _ _ _ _ _ _ _ _ _ _ _ _ _ _ _ _ _ _ _ _ _ _ _ _ _ _ _ _ _ _ _ _ _ _ _ _ _ _ _ _ _ _ _ _ _ _ _ _ _ _ _ _ _ _ _ _ _ _ _ _ _ _ _ _ _ _ _ _ _ _ _ _ _ _ _ _ _ _ _ _ _ _ _ _ _ _ _ _
end Go.Proofs.Ytponmblponfdaaa
