/-
  THE MOST AND THE RECORDS OF WHAT NUMBERS NEED, AND OF FALLS: 'SlowestUpTo', 'StepRecords', 'SlowestFall' of both.
-/
import Derived.Test.YtponmblponfdaaaRetM
import Derived.Test.YtponmblponfdaaaFalls5
import Derived.RangeFuncBox
namespace Go.Proofs.Ytponmblponfdaaa
open Go.RowKit
set_option linter.unusedVariables false

theorem bnd_need (t p k : Int) : Bnd (tabA needN t p k) := bnd_tab (fun n _ _ _ => by have := needN_bound t p n; omega) k
theorem bnd_fall (t p k : Int) : Bnd (tabA fallN t p k) := bnd_tab (fun n _ _ _ => by have := fallN_bound t p n; omega) k

set_option maxHeartbeats 2000000 in
theorem iSlowestUpTo (t p k : Int) (w : World) :
    Calls Try.prog 10 #[.agg #[.int .i64 t, .int .i64 p], .int .i64 k] w (RetMost (tabA needN t p k) w) := by
  have HL := Lib.hid (fun w => iStepsList t p k w)
  have HBD := Lib.hid (bnd_need t p k)
  have hlen := tabA_len needN t p k
  have HB0 := Lib.hid ((Below.refl _ w).alloc (Nat.le_refl _) (.cells #[.int .i64 t, .int .i64 p] 25))
  obtain ⟨xs, hxs⟩ : ∃ xs, tabA needN t p k = xs := ⟨_, rfl⟩
  rw [hxs] at HL HBD hlen ⊢
  have HRc := Lib.hid (fun v w h => recordsOf_any xs v w hlen HBD.out h)
  have HLr := Lib.hid (fun a w h => lastRecord_any (rcL xs) a (rcL xs).length w (Nat.le_trans (rcL_len xs) hlen) (rcL_ok HBD.out) h)
  clear hxs hlen
  go_enter Try.func10, Try.ntmps10
  go_wp2_with fail
  refine (HL.out _).mono ?_
  rintro e w1 ⟨v, rfl, hrow, hb1⟩
  have HB := Lib.hid (HB0.out.trans (hb1.mono (by simp)))
  have HIN := Lib.hid hrow.isIn
  clear hb1 hrow
  go_wp2_with fail
  refine (HRc.out _ _ HIN.out).mono ?_
  rintro e w2 ⟨a, rfl, hin, hb2⟩
  have HB2 := Lib.hid (HB.out.trans (hb2.mono HB.out.size))
  have HRI := Lib.hid hin
  clear hb2 hin
  go_wp2_with fail
  refine (HLr.out _ _ HRI.out).mono ?_
  rintro e w3 ⟨rfl, hb3⟩
  have HB3 := Lib.hid (HB2.out.trans (hb3.mono HB2.out.size))
  clear hb3
  go_wp2_with fail
  go_ret3
  exact ⟨rfl, HB3.out⟩

set_option maxHeartbeats 2000000 in
theorem sSlowestUpTo (t p k : Int) (w : World) :
    Calls Try.prog 11 #[.agg #[.int .i64 t, .int .i64 p], .int .i64 k] w (RetMost (tabA needN t p k) w) := by
  have HM := Lib.hid (fun w => reLimit_any t p k w)
  have HBD := Lib.hid (bnd_need t p k)
  cases hask : askL t p k
  · have HY : Hid (tabA needN t p k = []) := Lib.hid (tabA_no hask)
    rw [hask] at HM
    clear hask
    go_enter Try.func11, Try.ntmps11
    go_wp2_with fail
    refine (HM.out _).mono ?_
    rintro e w1 ⟨rfl, hb1⟩
    obtain ⟨c0, c1, hz, hb⟩ := map_block hb1
    clear hb1
    go_wp2_with fail
    go_ret3
    exact ⟨by rw [HY.out]; rfl, hb⟩
  · obtain ⟨K, rfl, hK1, hK, hg⟩ := askL_yes hask
    have hY := tabA_yes (g := needN) hask
    have HL := Lib.hid (fun w => reList_any t p K w hg hK)
    rw [← hY] at HL
    have hlen : (tabA needN t p K).length = K := by rw [hY, tabL_length]
    obtain ⟨xs, hxs⟩ : ∃ xs, tabA needN t p K = xs := ⟨_, rfl⟩
    rw [hxs] at HL HBD hlen ⊢
    have HMo := Lib.hid (fun v w h => reMost_any xs v w (by omega) (by omega) HBD.out h)
    rw [hask] at HM
    clear hask hg hxs hY hlen
    go_enter Try.func11, Try.ntmps11
    go_wp2_with fail
    refine (HM.out _).mono ?_
    rintro e w1 ⟨rfl, hb1⟩
    obtain ⟨c0, c1, hz, hb⟩ := map_block hb1
    clear hb1
    go_wp2_with fail
    refine (HL.out _).mono ?_
    rintro e w2 ⟨v, rfl, hrow, hb2⟩
    have HB := Lib.hid (hb.trans (hb2.mono (Nat.le_of_lt hz)))
    have HIN := Lib.hid hrow.isIn
    clear hb2 hb c0 c1 hrow
    go_wp2_with fail
    refine (HMo.out _ _ HIN.out).mono ?_
    rintro e w3 ⟨rfl, hb3⟩
    have HB3 := Lib.hid (HB.out.trans (hb3.mono HB.out.size))
    clear hb3
    go_wp2_with fail
    go_ret3
    exact ⟨rfl, HB3.out⟩

set_option maxHeartbeats 2000000 in
theorem iStepRecords (t p k : Int) (w : World) :
    Calls Try.prog 6 #[.agg #[.int .i64 t, .int .i64 p], .int .i64 k] w (RetPairs (rcL (tabA needN t p k)) (askL t p k) w) := by
  have HL := Lib.hid (fun w => iStepsList t p k w)
  have HBD := Lib.hid (bnd_need t p k)
  have hlen := tabA_len needN t p k
  have HB0 := Lib.hid ((Below.refl _ w).alloc (Nat.le_refl _) (.cells #[.int .i64 t, .int .i64 p] 25))
  obtain ⟨xs, hxs⟩ : ∃ xs, tabA needN t p k = xs := ⟨_, rfl⟩
  rw [hxs] at HL HBD hlen ⊢
  have HRc := Lib.hid (fun v w h => recordsOf_any xs v w hlen HBD.out h)
  have HLr := Lib.hid (fun a w h => pairsOf_any (rcL xs) a (rcL xs).length w (Nat.le_trans (rcL_len xs) hlen) h)
  clear hxs hlen
  go_enter Try.func6, Try.ntmps6
  go_wp2_with fail
  refine (HL.out _).mono ?_
  rintro e w1 ⟨v, rfl, hrow, hb1⟩
  have HB := Lib.hid (HB0.out.trans (hb1.mono (by simp)))
  have HIN := Lib.hid hrow.isIn
  clear hb1 hrow
  go_wp2_with fail
  refine (HRc.out _ _ HIN.out).mono ?_
  rintro e w2 ⟨a, rfl, hin, hb2⟩
  have HB2 := Lib.hid (HB.out.trans (hb2.mono HB.out.size))
  have HRI := Lib.hid hin
  clear hb2 hin
  go_wp2_with fail
  refine (HLr.out _ _ HRI.out).mono ?_
  rintro e w3 ⟨v3, rfl, hp3, hb3⟩
  have HB3 := Lib.hid (HB2.out.trans (hb3.mono HB2.out.size))
  have HP3 := Lib.hid (hp3.base HB2.out.size)
  clear hb3 hp3
  go_wp2_with fail
  go_ret2
  exact ⟨v3, rfl, HP3.out, HB3.out⟩

set_option maxHeartbeats 2000000 in
theorem sStepRecords (t p k : Int) (w : World) :
    Calls Try.prog 7 #[.agg #[.int .i64 t, .int .i64 p], .int .i64 k] w (RetPairs (rcL (tabA needN t p k)) (askL t p k) w) := by
  have HM := Lib.hid (fun w => reLimit_any t p k w)
  have HBD := Lib.hid (bnd_need t p k)
  cases hask : askL t p k
  · have HY : Hid (tabA needN t p k = []) := Lib.hid (tabA_no hask)
    rw [hask] at HM
    clear hask
    go_enter Try.func7, Try.ntmps7
    go_wp2_with fail
    refine (HM.out _).mono ?_
    rintro e w1 ⟨rfl, hb1⟩
    obtain ⟨c0, c1, hz, hb⟩ := map_block hb1
    clear hb1
    go_wp2_with fail
    go_ret2
    exact ⟨_, rfl, by rw [HY.out]; exact pairsAt_nil _ _, hb⟩
  · obtain ⟨K, rfl, hK1, hK, hg⟩ := askL_yes hask
    have hY := tabA_yes (g := needN) hask
    have HL := Lib.hid (fun w => reList_any t p K w hg hK)
    rw [← hY] at HL
    have hlen : (tabA needN t p K).length = K := by rw [hY, tabL_length]
    obtain ⟨xs, hxs⟩ : ∃ xs, tabA needN t p K = xs := ⟨_, rfl⟩
    rw [hxs] at HL HBD hlen ⊢
    have HMo := Lib.hid (fun v w h => reRecords_any xs v w (by omega) HBD.out h)
    rw [hask] at HM
    clear hask hg hxs hY hlen
    go_enter Try.func7, Try.ntmps7
    go_wp2_with fail
    refine (HM.out _).mono ?_
    rintro e w1 ⟨rfl, hb1⟩
    obtain ⟨c0, c1, hz, hb⟩ := map_block hb1
    clear hb1
    go_wp2_with fail
    refine (HL.out _).mono ?_
    rintro e w2 ⟨v, rfl, hrow, hb2⟩
    have HB := Lib.hid (hb.trans (hb2.mono (Nat.le_of_lt hz)))
    have HIN := Lib.hid hrow.isIn
    clear hb2 hb c0 c1 hrow
    go_wp2_with fail
    refine (HMo.out _ _ HIN.out).mono ?_
    rintro e w3 ⟨v3, rfl, hp3, hb3⟩
    have HB3 := Lib.hid (HB.out.trans (hb3.mono HB.out.size))
    have HP3 := Lib.hid (hp3.base HB.out.size)
    clear hb3 hp3
    go_wp2_with fail
    go_ret2
    exact ⟨v3, rfl, HP3.out, HB3.out⟩

set_option maxHeartbeats 2000000 in
theorem iSlowestFall (t p k : Int) (w : World) :
    Calls Try.prog 31 #[.agg #[.int .i64 t, .int .i64 p], .int .i64 k] w (RetMost (tabA fallN t p k) w) := by
  have HL := Lib.hid (fun w => iFallsOf t p k w)
  have HBD := Lib.hid (bnd_fall t p k)
  have hlen := tabA_len fallN t p k
  have HB0 := Lib.hid ((Below.refl _ w).alloc (Nat.le_refl _) (.cells #[.int .i64 t, .int .i64 p] 25))
  obtain ⟨xs, hxs⟩ : ∃ xs, tabA fallN t p k = xs := ⟨_, rfl⟩
  rw [hxs] at HL HBD hlen ⊢
  have HRc := Lib.hid (fun v w h => recordsOf_any xs v w hlen HBD.out h)
  have HLr := Lib.hid (fun a w h => lastRecord_any (rcL xs) a (rcL xs).length w (Nat.le_trans (rcL_len xs) hlen) (rcL_ok HBD.out) h)
  clear hxs hlen
  go_enter Try.func31, Try.ntmps31
  go_wp2_with fail
  refine (HL.out _).mono ?_
  rintro e w1 ⟨v, rfl, hrow, hb1⟩
  have HB := Lib.hid (HB0.out.trans (hb1.mono (by simp)))
  have HIN := Lib.hid hrow.isIn
  clear hb1 hrow
  go_wp2_with fail
  refine (HRc.out _ _ HIN.out).mono ?_
  rintro e w2 ⟨a, rfl, hin, hb2⟩
  have HB2 := Lib.hid (HB.out.trans (hb2.mono HB.out.size))
  have HRI := Lib.hid hin
  clear hb2 hin
  go_wp2_with fail
  refine (HLr.out _ _ HRI.out).mono ?_
  rintro e w3 ⟨rfl, hb3⟩
  have HB3 := Lib.hid (HB2.out.trans (hb3.mono HB2.out.size))
  clear hb3
  go_wp2_with fail
  go_ret3
  exact ⟨rfl, HB3.out⟩

set_option maxHeartbeats 2000000 in
theorem sSlowestFall (t p k : Int) (w : World) :
    Calls Try.prog 32 #[.agg #[.int .i64 t, .int .i64 p], .int .i64 k] w (RetMost (tabA fallN t p k) w) := by
  have HM := Lib.hid (fun w => reLimit_any t p k w)
  have HBD := Lib.hid (bnd_fall t p k)
  cases hask : askL t p k
  · have HY : Hid (tabA fallN t p k = []) := Lib.hid (tabA_no hask)
    rw [hask] at HM
    clear hask
    go_enter Try.func32, Try.ntmps32
    go_wp2_with fail
    refine (HM.out _).mono ?_
    rintro e w1 ⟨rfl, hb1⟩
    obtain ⟨c0, c1, hz, hb⟩ := map_block hb1
    clear hb1
    go_wp2_with fail
    go_ret3
    exact ⟨by rw [HY.out]; rfl, hb⟩
  · obtain ⟨K, rfl, hK1, hK, hg⟩ := askL_yes hask
    have hY := tabA_yes (g := fallN) hask
    have HL := Lib.hid (fun w => reFalls_any t p K w hg hK)
    rw [← hY] at HL
    have hlen : (tabA fallN t p K).length = K := by rw [hY, tabL_length]
    obtain ⟨xs, hxs⟩ : ∃ xs, tabA fallN t p K = xs := ⟨_, rfl⟩
    rw [hxs] at HL HBD hlen ⊢
    have HMo := Lib.hid (fun v w h => reMost_any xs v w (by omega) (by omega) HBD.out h)
    rw [hask] at HM
    clear hask hg hxs hY hlen
    go_enter Try.func32, Try.ntmps32
    go_wp2_with fail
    refine (HM.out _).mono ?_
    rintro e w1 ⟨rfl, hb1⟩
    obtain ⟨c0, c1, hz, hb⟩ := map_block hb1
    clear hb1
    go_wp2_with fail
    refine (HL.out _).mono ?_
    rintro e w2 ⟨v, rfl, hrow, hb2⟩
    have HB := Lib.hid (hb.trans (hb2.mono (Nat.le_of_lt hz)))
    have HIN := Lib.hid hrow.isIn
    clear hb2 hb c0 c1 hrow
    go_wp2_with fail
    refine (HMo.out _ _ HIN.out).mono ?_
    rintro e w3 ⟨rfl, hb3⟩
    have HB3 := Lib.hid (HB.out.trans (hb3.mono HB.out.size))
    clear hb3
    go_wp2_with fail
    go_ret3
    exact ⟨rfl, HB3.out⟩
end Go.Proofs.Ytponmblponfdaaa
