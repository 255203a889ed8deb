/-
  THE WALK OF THE LAW 'StepsGo' ON BYTES: the draw, the calls, then its three cases.
-/
import Derived.Test.YtebbafapcknllaaSbF1
import Derived.Test.YtebbafapcknllaaSbF2
import Derived.Test.YtebbafapcknllaaSbF3
namespace Go.Proofs.Ytebbafapcknllaa
open Go.RowKit
set_option linter.unusedVariables false

set_option maxRecDepth 100000 in
set_option maxHeartbeats 16000000 in
theorem fnStepsGo_law (vc vm : Value) (w : World) (hc : BytesAny w vc) (hm : BytesAny w vm) :
    Calls Try.prog 3 #[vc, vm] w fun e w' => e = .returned (.bool true) ∧ Below w.heap.size w w' := by
  obtain ⟨a1, n1, k1, rfl, hx1⟩ := hc
  obtain ⟨a2, n2, k2, rfl, hx2⟩ := hm
  have HBG := Lib.hid (fun w => big_any a1 a2 n1 n2 k1 k2 w)
  cases hbg : bigB n1 n2
  case true =>
    rw [hbg] at HBG
    clear hx1 hx2 hbg
    go_enter Try.func3, Try.ntmps3
    go_wp2_with (go_at_call 4; refine (HBG.out _).mono ?_; rintro e w' ⟨rfl, rfl⟩)
    go_ret
    exact ⟨rfl, Below.refl _ _⟩
  rw [hbg] at HBG
  have hbn : ¬ (1048576 < (n1 : Int)) ∧ ¬ (1048576 - (n1 : Int) < (n2 : Int)) := by
    unfold bigB at hbg
    rw [Bool.or_eq_false_iff] at hbg
    exact ⟨of_decide_eq_false hbg.1, of_decide_eq_false hbg.2⟩
  have HC : Hid (BytesArg w (.slice a1 n1 k1)) := Lib.hid (BytesAny.small ⟨a1, n1, k1, rfl, hx1⟩ (by omega))
  have HM : Hid (BytesArg w (.slice a2 n2 k2)) := Lib.hid (BytesAny.small ⟨a2, n2, k2, rfl, hx2⟩ (by omega))
  clear hx1 hx2 hbg hbn
  go_enter Try.func3, Try.ntmps3
  go_wp2_with fail
  refine (HBG.out _).mono ?_
  rintro e w' ⟨rfl, rfl⟩
  clear HBG
  go_wp2_with fail
  refine (DrawNumberAfter_any _ _ HC.out).mono ?_
  rintro e w0 ⟨t, p, n, k, rfl, hb⟩
  have M := Lib.hid (Two9.new w0 t p 25)
  have B := Lib.hid ((hb.trans ((below_newM w0 (.cells #[.int .i64 t, .int .i64 p] 25)).mono hb.size)))
  clear hb HC
  have H1 := Lib.hid (fun w => iNumberAfter t p n k w)
  have H2 := Lib.hid (fun w => sNumberAfter t p n k w)
  have H3 := Lib.hid (fun w => iPathOf t p n k w)
  have H4 := Lib.hid (fun w => sPathOf t p n k w)
  have H5 := Lib.hid (fun w => iSignsOf t p n k w)
  have H6 := Lib.hid (fun w => sSignsOf t p n k w)
  have H7 := Lib.hid (fun w => iOddSteps t p n k w)
  have H8 := Lib.hid (fun w => sOddSteps t p n k w)
  have H9 := Lib.hid (fun w => iPeakOf t p n k w)
  have H10 := Lib.hid (fun w => sPeakOf t p n k w)
  have H11 := Lib.hid (fun w => iLowOf t p n k w)
  have H12 := Lib.hid (fun w => sLowOf t p n k w)
  have H13 := Lib.hid (fun w => iSumOfPath t p n k w)
  have H14 := Lib.hid (fun w => sSumOfPath t p n k w)
  rw [pk_ok] at H9 H10 H11 H12
  have HF : Hid (SgF t p n k (aft t p (nx t p) n k).1 (aft t p (nx t p) n k).2 (pofL t p n k) (pofB t p n k) (sig t p n k) (odd t p n k) (pk true t p n k).1 (pk true t p n k).2.1 (pk false t p n k).1 (pk false t p n k).2.1 (som t p n k).1 (som t p n k).2) := Lib.hid ⟨rfl, rfl, rfl, rfl, rfl, rfl, rfl, rfl, rfl, rfl, rfl, rfl⟩
  generalize (aft t p (nx t p) n k).1 = A at H1 H2 HF
  generalize (aft t p (nx t p) n k).2 = b at H1 H2 H5 H6 H7 H8 H9 H10 H11 H12 HF
  generalize pofL t p n k = xs at H3 H4 HF
  generalize pofB t p n k = ob at H3 H4 HF
  generalize sig t p n k = sg at H5 H6 HF
  generalize odd t p n k = od at H7 H8 HF
  generalize (pk true t p n k).1 = P1 at H9 H10 HF
  generalize (pk true t p n k).2.1 = P2 at H9 H10 HF
  generalize (pk false t p n k).1 = L1 at H11 H12 HF
  generalize (pk false t p n k).2.1 = L2 at H11 H12 HF
  generalize (som t p n k).1 = s1 at H13 H14 HF
  generalize (som t p n k).2 = se at H13 H14 HF
  have c0 := M.out.c0
  have c1 := M.out.c1
  go_wp2_with fail
  refine (H1.out _).mono ?_
  rintro e w1 ⟨rfl, hb1⟩
  have M1 := Lib.hid (M.out.kept hb1)
  have B1 := Lib.hid (B.out.trans (hb1.mono B.out.size))
  clear M B hb1 c0 c1
  have c0 := M1.out.c0
  have c1 := M1.out.c1
  go_wp2_with fail
  refine (H2.out _).mono ?_
  rintro e w2 ⟨rfl, hb2⟩
  have M2 := Lib.hid (M1.out.kept hb2)
  have B2 := Lib.hid (B1.out.trans (hb2.mono (B1.out.size)))
  clear c0 c1 hb2 M1 B1
  have c0 := M2.out.c0
  have c1 := M2.out.c1
  go_wp2_with fail
  refine (H3.out _).mono ?_
  rintro e w3 ⟨v3, rfl, hr3, hb3, hnil⟩
  clear hnil
  have M3 := Lib.hid (M2.out.kept hb3)
  have B3 := Lib.hid (B2.out.trans (hb3.mono (B2.out.size)))
  have R3_3 := Lib.hid hr3.isIn
  clear hr3
  clear c0 c1 hb3 M2 B2
  have c0 := M3.out.c0
  have c1 := M3.out.c1
  go_wp2_with fail
  refine (H4.out _).mono ?_
  rintro e w4 ⟨v4, rfl, hr4, hb4, hnil⟩
  clear hnil
  have M4 := Lib.hid (M3.out.kept hb4)
  have B4 := Lib.hid (B3.out.trans (hb4.mono (B3.out.size)))
  have R3_4 := Lib.hid (R3_3.out.kept hb4)
  have R4_4 := Lib.hid hr4.isIn
  clear hr4
  clear c0 c1 hb4 M3 B3 R3_3
  have c0 := M4.out.c0
  have c1 := M4.out.c1
  go_wp2_with fail
  refine (H5.out _).mono ?_
  rintro e w5 ⟨rfl, hb5⟩
  have M5 := Lib.hid (M4.out.kept hb5)
  have B5 := Lib.hid (B4.out.trans (hb5.mono (B4.out.size)))
  have R3_5 := Lib.hid (R3_4.out.kept hb5)
  have R4_5 := Lib.hid (R4_4.out.kept hb5)
  clear c0 c1 hb5 M4 B4 R3_4 R4_4
  have c0 := M5.out.c0
  have c1 := M5.out.c1
  go_wp2_with fail
  refine (H6.out _).mono ?_
  rintro e w6 ⟨rfl, hb6⟩
  have M6 := Lib.hid (M5.out.kept hb6)
  have B6 := Lib.hid (B5.out.trans (hb6.mono (B5.out.size)))
  have R3_6 := Lib.hid (R3_5.out.kept hb6)
  have R4_6 := Lib.hid (R4_5.out.kept hb6)
  clear c0 c1 hb6 M5 B5 R3_5 R4_5
  have c0 := M6.out.c0
  have c1 := M6.out.c1
  go_wp2_with fail
  refine (H7.out _).mono ?_
  rintro e w7 ⟨rfl, hb7⟩
  have M7 := Lib.hid (M6.out.kept hb7)
  have B7 := Lib.hid (B6.out.trans (hb7.mono (B6.out.size)))
  have R3_7 := Lib.hid (R3_6.out.kept hb7)
  have R4_7 := Lib.hid (R4_6.out.kept hb7)
  clear c0 c1 hb7 M6 B6 R3_6 R4_6
  have c0 := M7.out.c0
  have c1 := M7.out.c1
  go_wp2_with fail
  refine (H8.out _).mono ?_
  rintro e w8 ⟨rfl, hb8⟩
  have M8 := Lib.hid (M7.out.kept hb8)
  have B8 := Lib.hid (B7.out.trans (hb8.mono (B7.out.size)))
  have R3_8 := Lib.hid (R3_7.out.kept hb8)
  have R4_8 := Lib.hid (R4_7.out.kept hb8)
  clear c0 c1 hb8 M7 B7 R3_7 R4_7
  have c0 := M8.out.c0
  have c1 := M8.out.c1
  go_wp2_with fail
  refine (H9.out _).mono ?_
  rintro e w9 ⟨rfl, hb9⟩
  have M9 := Lib.hid (M8.out.kept hb9)
  have B9 := Lib.hid (B8.out.trans (hb9.mono (B8.out.size)))
  have R3_9 := Lib.hid (R3_8.out.kept hb9)
  have R4_9 := Lib.hid (R4_8.out.kept hb9)
  clear c0 c1 hb9 M8 B8 R3_8 R4_8
  have c0 := M9.out.c0
  have c1 := M9.out.c1
  go_wp2_with fail
  refine (H10.out _).mono ?_
  rintro e w10 ⟨rfl, hb10⟩
  have M10 := Lib.hid (M9.out.kept hb10)
  have B10 := Lib.hid (B9.out.trans (hb10.mono (B9.out.size)))
  have R3_10 := Lib.hid (R3_9.out.kept hb10)
  have R4_10 := Lib.hid (R4_9.out.kept hb10)
  clear c0 c1 hb10 M9 B9 R3_9 R4_9
  have c0 := M10.out.c0
  have c1 := M10.out.c1
  go_wp2_with fail
  refine (H11.out _).mono ?_
  rintro e w11 ⟨rfl, hb11⟩
  have M11 := Lib.hid (M10.out.kept hb11)
  have B11 := Lib.hid (B10.out.trans (hb11.mono (B10.out.size)))
  have R3_11 := Lib.hid (R3_10.out.kept hb11)
  have R4_11 := Lib.hid (R4_10.out.kept hb11)
  clear c0 c1 hb11 M10 B10 R3_10 R4_10
  have c0 := M11.out.c0
  have c1 := M11.out.c1
  go_wp2_with fail
  refine (H12.out _).mono ?_
  rintro e w12 ⟨rfl, hb12⟩
  have M12 := Lib.hid (M11.out.kept hb12)
  have B12 := Lib.hid (B11.out.trans (hb12.mono (B11.out.size)))
  have R3_12 := Lib.hid (R3_11.out.kept hb12)
  have R4_12 := Lib.hid (R4_11.out.kept hb12)
  clear c0 c1 hb12 M11 B11 R3_11 R4_11
  have c0 := M12.out.c0
  have c1 := M12.out.c1
  go_wp2_with fail
  refine (H13.out _).mono ?_
  rintro e w13 ⟨rfl, hb13⟩
  have M13 := Lib.hid (M12.out.kept hb13)
  have B13 := Lib.hid (B12.out.trans (hb13.mono (B12.out.size)))
  have R3_13 := Lib.hid (R3_12.out.kept hb13)
  have R4_13 := Lib.hid (R4_12.out.kept hb13)
  clear c0 c1 hb13 M12 B12 R3_12 R4_12
  clear H1 H2 H3 H4 H5 H6 H7 H8 H9 H10 H11 H12 H13
  go_upto_region 17 with fail
  go_cut [38, 39] from 178 to 183 (fun s47 s48 wx => s47 = .int .i64 s1 ∧ s48 = .bool se ∧ Hid (Below w13.heap.size w13 wx))
  case first =>
    have c0 := M13.out.c0
    have c1 := M13.out.c1
    clear M13 B13 R3_13 R4_13 HF HM
    go_wp2_with fail
    refine (H14.out _).mono ?_
    rintro e w14 ⟨rfl, hb14⟩
    have HB14 := Lib.hid hb14
    clear hb14 c0 c1
    go_wp2_with fail
    go_meet
    case rel => exact ⟨rfl, rfl, HB14⟩
  case rest =>
    obtain ⟨rfl, rfl, hb⟩ := hcut
    have hb := hb.out
    have M := Lib.hid (M13.out.kept hb)
    have B := Lib.hid (B13.out.trans (hb.mono B13.out.size))
    have R3 := Lib.hid (R3_13.out.kept hb)
    have R4 := Lib.hid (R4_13.out.kept hb)
    clear hb M13 B13 R3_13 R4_13 H14
    refine ‹∀ (a : Act) (w : World), Code.wp _ _ _ a w → _› _ _ ?_
    cases b
    · obtain rfl : ob = false := by
        cases ob
        · rfl
        · exact absurd (sgf_ob HF.out rfl) (by decide)
      obtain rfl : se = false := by
        cases se
        · rfl
        · exact absurd (sgf_se HF.out rfl) (by decide)
      exact sb_F1 _ _ t p n k A xs sg od P1 P2 L1 L2 s1 v3 v4 w _ M B HM R3 R4 HF _ _ _ _ _ _ _ _ _ _ _ _ _ _ _ _ _ _ _ _ _ _ _ _ _ _ _ _ _ _ _ _ _ _ _ _ _ _ _ _ _ _ _ _ _ _ _ _ _ _ _ _ _ _ _ _ _ _ _ _ _ _ _ _ _ _ _ _ _ _ _ _ _ _ _ _ _ _ _ _ _ _ _ _ _ _ _ _ _ _ _ _ _ _ _ _ _ _ _ _ _ _ _ _ _ _ _ _ _ _ _ _ _ _ _ _ _ _ _ _ _ _ _ _ _ _ _ _ _ _ _ _ _ _ _ _ _ _ _ _ _ _ _ _ _ _ _ _ _ _ _ _ _ _ _ _ _ _ _ _ _ _ _ _ _ _ _ _ _ _ _ _ _ _ _ _ _ _ _ _ _ _ _ _ _ _ _ _ _ _ _ _ _ _ _ _ _ _ _ _ _ _ _ _ _ _ _ _ _ _ _ _ _ _ _ _ _ _ _ _ _ _ _ _ _ _ _ _ _ _ _ _ _ _ _ _ _ _ _ _ _ _ _ _ _ _ _ _ _ _ _ _ _ _ _ _ _ _ _ _ _ _ _ _ _ _ _ _ _ _ _ _ _ _ _ _ _ _ _ _ _ _ _ _ _ _ _ _ _ _ _ _ _ _ _ _ _ _ _ _ _ _ _ _ _ _ _ _ _ _ _ _ _ _ _ _ _ _ _ _ _ _ _ _ _ _ _ _ _ _ _ _ _ _ _ _ _ _ _ _ _ _ _ _ _ _ _ _ _ _ _ _ _ _ _ _ _ _ _ _ _ _ _ _ _ _ _ _ _ _ _ _ _ _ _ _ _ _ _ _ _ _ _ _ _ _ _ _ _ _ _ _ _ _ _ _ _ _ _ _ _ _ _ _ _ _ _ _ _ _ _ _ _ _ _ _ _ _ _ _ _ _ _ _ _ _ _ _ _ _ _ _ _ _ _ _ _ _ _ _ _ _ _ _ _ _ _ _ _ _ _ _ _ _ _ _ _ _ _ _ _ _ _ _ _ _ _ _ _ _ _ _ _ _ _ _ _ _ _ _ _ _ _ _ _ _ _ _ _ _ _ _ _ _ _ _ _ _ _ _ _ _ _ _ _ _ _ _ _ _ _ _ _ _ _ _ _ _ _ _ _ _ _ _ _ _ _ _ _ _ _ _ _ _ _ _ _ _ _ _ _ _ _ _ _ _ _ _ _ _ _ _ _ _ _ _ _ _ _ _ _ _ _ _ _ _ _ _ _ _ _ _ _ _ _ _ _ _ _ _
    · cases ob
      · exact sb_F2 _ _ t p n k A se xs sg od P1 P2 L1 L2 s1 v3 v4 w _ M B HM R3 R4 HF _ _ _ _ _ _ _ _ _ _ _ _ _ _ _ _ _ _ _ _ _ _ _ _ _ _ _ _ _ _ _ _ _ _ _ _ _ _ _ _ _ _ _ _ _ _ _ _ _ _ _ _ _ _ _ _ _ _ _ _ _ _ _ _ _ _ _ _ _ _ _ _ _ _ _ _ _ _ _ _ _ _ _ _ _ _ _ _ _ _ _ _ _ _ _ _ _ _ _ _ _ _ _ _ _ _ _ _ _ _ _ _ _ _ _ _ _ _ _ _ _ _ _ _ _ _ _ _ _ _ _ _ _ _ _ _ _ _ _ _ _ _ _ _ _ _ _ _ _ _ _ _ _ _ _ _ _ _ _ _ _ _ _ _ _ _ _ _ _ _ _ _ _ _ _ _ _ _ _ _ _ _ _ _ _ _ _ _ _ _ _ _ _ _ _ _ _ _ _ _ _ _ _ _ _ _ _ _ _ _ _ _ _ _ _ _ _ _ _ _ _ _ _ _ _ _ _ _ _ _ _ _ _ _ _ _ _ _ _ _ _ _ _ _ _ _ _ _ _ _ _ _ _ _ _ _ _ _ _ _ _ _ _ _ _ _ _ _ _ _ _ _ _ _ _ _ _ _ _ _ _ _ _ _ _ _ _ _ _ _ _ _ _ _ _ _ _ _ _ _ _ _ _ _ _ _ _ _ _ _ _ _ _ _ _ _ _ _ _ _ _ _ _ _ _ _ _ _ _ _ _ _ _ _ _ _ _ _ _ _ _ _ _ _ _ _ _ _ _ _ _ _ _ _ _ _ _ _ _ _ _ _ _ _ _ _ _ _ _ _ _ _ _ _ _ _ _ _ _ _ _ _ _ _ _ _ _ _ _ _ _ _ _ _ _ _ _ _ _ _ _ _ _ _ _ _ _ _ _ _ _ _ _ _ _ _ _ _ _ _ _ _ _ _ _ _ _ _ _ _ _ _ _ _ _ _ _ _ _ _ _ _ _ _ _ _ _ _ _ _ _ _ _ _ _ _ _ _ _ _ _ _ _ _ _ _ _ _ _ _ _ _ _ _ _ _ _ _ _ _ _ _ _ _ _ _ _ _ _ _ _ _ _ _ _ _ _ _ _ _ _ _ _ _ _ _ _ _ _ _ _ _ _ _ _ _ _ _ _ _ _ _ _ _ _ _ _ _ _ _ _ _ _ _ _ _ _ _ _ _ _ _ _ _ _ _ _ _ _ _ _ _ _ _ _ _ _ _ _ _ _ _ _ _ _ _ _ _ _ _ _ _ _ _ _ _ _ _ _ _
      · exact sb_F3 _ _ t p n k A se xs sg od P1 P2 L1 L2 s1 v3 v4 w _ M B HM R3 R4 HF _ _ _ _ _ _ _ _ _ _ _ _ _ _ _ _ _ _ _ _ _ _ _ _ _ _ _ _ _ _ _ _ _ _ _ _ _ _ _ _ _ _ _ _ _ _ _ _ _ _ _ _ _ _ _ _ _ _ _ _ _ _ _ _ _ _ _ _ _ _ _ _ _ _ _ _ _ _ _ _ _ _ _ _ _ _ _ _ _ _ _ _ _ _ _ _ _ _ _ _ _ _ _ _ _ _ _ _ _ _ _ _ _ _ _ _ _ _ _ _ _ _ _ _ _ _ _ _ _ _ _ _ _ _ _ _ _ _ _ _ _ _ _ _ _ _ _ _ _ _ _ _ _ _ _ _ _ _ _ _ _ _ _ _ _ _ _ _ _ _ _ _ _ _ _ _ _ _ _ _ _ _ _ _ _ _ _ _ _ _ _ _ _ _ _ _ _ _ _ _ _ _ _ _ _ _ _ _ _ _ _ _ _ _ _ _ _ _ _ _ _ _ _ _ _ _ _ _ _ _ _ _ _ _ _ _ _ _ _ _ _ _ _ _ _ _ _ _ _ _ _ _ _ _ _ _ _ _ _ _ _ _ _ _ _ _ _ _ _ _ _ _ _ _ _ _ _ _ _ _ _ _ _ _ _ _ _ _ _ _ _ _ _ _ _ _ _ _ _ _ _ _ _ _ _ _ _ _ _ _ _ _ _ _ _ _ _ _ _ _ _ _ _ _ _ _ _ _ _ _ _ _ _ _ _ _ _ _ _ _ _ _ _ _ _ _ _ _ _ _ _ _ _ _ _ _ _ _ _ _ _ _ _ _ _ _ _ _ _ _ _ _ _ _ _ _ _ _ _ _ _ _ _ _ _ _ _ _ _ _ _ _ _ _ _ _ _ _ _ _ _ _ _ _ _ _ _ _ _ _ _ _ _ _ _ _ _ _ _ _ _ _ _ _ _ _ _ _ _ _ _ _ _ _ _ _ _ _ _ _ _ _ _ _ _ _ _ _ _ _ _ _ _ _ _ _ _ _ _ _ _ _ _ _ _ _ _ _ _ _ _ _ _ _ _ _ _ _ _ _ _ _ _ _ _ _ _ _ _ _ _ _ _ _ _ _ _ _ _ _ _ _ _ _ _ _ _ _ _ _ _ _ _ _ _ _ _ _ _ _ _ _ _ _ _ _ _ _ _ _ _ _ _ _ _ _ _ _ _ _ _ _ _ _ _ _ _ _ _ _ _ _ _ _ _ _ _ _ _ _ _ _ _ _ _ _ _ _ _ _ _ _ _ _ _ _ _ _ _ _
end Go.Proofs.Ytebbafapcknllaa
