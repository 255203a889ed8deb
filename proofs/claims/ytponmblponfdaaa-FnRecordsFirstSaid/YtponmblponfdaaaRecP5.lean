/-
  THE MOST AND THE RECORDS OF PEAKS: 'PeakOfAll', 'PeakRecords' of both.
-/
import Derived.Test.YtponmblponfdaaaRetM
import Derived.Test.YtponmblponfdaaaPeak5
import Derived.RangeFuncBox
namespace Go.Proofs.Ytponmblponfdaaa
open Go.RowKit
set_option linter.unusedVariables false

set_option maxHeartbeats 2000000 in
theorem iPeakOfAll (t p k : Int) (w : World) :
    Calls Try.prog 18 #[.agg #[.int .i64 t, .int .i64 p], .int .i64 k] w (RetMost (tabA peakN t p k) w) := by
  have HL := Lib.hid (fun w => iPeakList t p k w)
  have HBD := Lib.hid (bnd_peak t p k)
  have hlen := tabA_len peakN t p k
  have HB0 := Lib.hid ((Below.refl _ w).alloc (Nat.le_refl _) (.cells #[.int .i64 t, .int .i64 p] 25))
  obtain ⟨xs, hxs⟩ : ∃ xs, tabA peakN t p k = xs := ⟨_, rfl⟩
  rw [hxs] at HL HBD hlen ⊢
  have HRc := Lib.hid (fun v w h => recordsOf_any xs v w hlen HBD.out h)
  have HLr := Lib.hid (fun a w h => lastRecord_any (rcL xs) a (rcL xs).length w (Nat.le_trans (rcL_len xs) hlen) (rcL_ok HBD.out) h)
  clear hxs hlen
  go_enter Try.func18, Try.ntmps18
  go_wp2_with fail
  refine (HL.out _).mono ?_
  rintro e w1 ⟨v, rfl, hrow, hb1⟩
  have HB := Lib.hid (HB0.out.trans (hb1.mono (by simp)))
  have HIN := Lib.hid hrow.isIn
  clear hb1 hrow
  go_wp2_with fail
  refine (HRc.out _ _ HIN.out).mono ?_
  rintro e w2 ⟨a, rfl, hin, hb2⟩
  have HB2 := Lib.hid (HB.out.trans (hb2.mono HB.out.size))
  have HRI := Lib.hid hin
  clear hb2 hin
  go_wp2_with fail
  refine (HLr.out _ _ HRI.out).mono ?_
  rintro e w3 ⟨rfl, hb3⟩
  have HB3 := Lib.hid (HB2.out.trans (hb3.mono HB2.out.size))
  clear hb3
  go_wp2_with fail
  go_ret3
  exact ⟨rfl, HB3.out⟩

set_option maxHeartbeats 2000000 in
theorem sPeakOfAll (t p k : Int) (w : World) :
    Calls Try.prog 19 #[.agg #[.int .i64 t, .int .i64 p], .int .i64 k] w (RetMost (tabA peakN t p k) w) := by
  have HM := Lib.hid (fun w => reLimit_any t p k w)
  have HBD := Lib.hid (bnd_peak t p k)
  cases hask : askL t p k
  · have HY : Hid (tabA peakN t p k = []) := Lib.hid (tabA_no hask)
    rw [hask] at HM
    clear hask
    go_enter Try.func19, Try.ntmps19
    go_wp2_with fail
    refine (HM.out _).mono ?_
    rintro e w1 ⟨rfl, hb1⟩
    obtain ⟨c0, c1, hz, hb⟩ := map_block hb1
    clear hb1
    go_wp2_with fail
    go_ret3
    exact ⟨by rw [HY.out]; rfl, hb⟩
  · obtain ⟨K, rfl, hK1, hK, hg⟩ := askL_yes hask
    have hY := tabA_yes (g := peakN) hask
    have HL := Lib.hid (fun w => rePeaks_any t p K w hg hK)
    rw [← hY] at HL
    have hlen : (tabA peakN t p K).length = K := by rw [hY, tabL_length]
    obtain ⟨xs, hxs⟩ : ∃ xs, tabA peakN t p K = xs := ⟨_, rfl⟩
    rw [hxs] at HL HBD hlen ⊢
    have HMo := Lib.hid (fun v w h => reMost_any xs v w (by omega) (by omega) HBD.out h)
    rw [hask] at HM
    clear hask hg hxs hY hlen
    go_enter Try.func19, Try.ntmps19
    go_wp2_with fail
    refine (HM.out _).mono ?_
    rintro e w1 ⟨rfl, hb1⟩
    obtain ⟨c0, c1, hz, hb⟩ := map_block hb1
    clear hb1
    go_wp2_with fail
    refine (HL.out _).mono ?_
    rintro e w2 ⟨v, rfl, hrow, hb2⟩
    have HB := Lib.hid (hb.trans (hb2.mono (Nat.le_of_lt hz)))
    have HIN := Lib.hid hrow.isIn
    clear hb2 hb c0 c1 hrow
    go_wp2_with fail
    refine (HMo.out _ _ HIN.out).mono ?_
    rintro e w3 ⟨rfl, hb3⟩
    have HB3 := Lib.hid (HB.out.trans (hb3.mono HB.out.size))
    clear hb3
    go_wp2_with fail
    go_ret3
    exact ⟨rfl, HB3.out⟩

set_option maxHeartbeats 2000000 in
theorem iPeakRecords (t p k : Int) (w : World) :
    Calls Try.prog 12 #[.agg #[.int .i64 t, .int .i64 p], .int .i64 k] w (RetPairs (rcL (tabA peakN t p k)) (askL t p k) w) := by
  have HL := Lib.hid (fun w => iPeakList t p k w)
  have HBD := Lib.hid (bnd_peak t p k)
  have hlen := tabA_len peakN t p k
  have HB0 := Lib.hid ((Below.refl _ w).alloc (Nat.le_refl _) (.cells #[.int .i64 t, .int .i64 p] 25))
  obtain ⟨xs, hxs⟩ : ∃ xs, tabA peakN t p k = xs := ⟨_, rfl⟩
  rw [hxs] at HL HBD hlen ⊢
  have HRc := Lib.hid (fun v w h => recordsOf_any xs v w hlen HBD.out h)
  have HLr := Lib.hid (fun a w h => pairsOf_any (rcL xs) a (rcL xs).length w (Nat.le_trans (rcL_len xs) hlen) h)
  clear hxs hlen
  go_enter Try.func12, Try.ntmps12
  go_wp2_with fail
  refine (HL.out _).mono ?_
  rintro e w1 ⟨v, rfl, hrow, hb1⟩
  have HB := Lib.hid (HB0.out.trans (hb1.mono (by simp)))
  have HIN := Lib.hid hrow.isIn
  clear hb1 hrow
  go_wp2_with fail
  refine (HRc.out _ _ HIN.out).mono ?_
  rintro e w2 ⟨a, rfl, hin, hb2⟩
  have HB2 := Lib.hid (HB.out.trans (hb2.mono HB.out.size))
  have HRI := Lib.hid hin
  clear hb2 hin
  go_wp2_with fail
  refine (HLr.out _ _ HRI.out).mono ?_
  rintro e w3 ⟨v3, rfl, hp3, hb3⟩
  have HB3 := Lib.hid (HB2.out.trans (hb3.mono HB2.out.size))
  have HP3 := Lib.hid (hp3.base HB2.out.size)
  clear hb3 hp3
  go_wp2_with fail
  go_ret2
  exact ⟨v3, rfl, HP3.out, HB3.out⟩

set_option maxHeartbeats 2000000 in
theorem sPeakRecords (t p k : Int) (w : World) :
    Calls Try.prog 13 #[.agg #[.int .i64 t, .int .i64 p], .int .i64 k] w (RetPairs (rcL (tabA peakN t p k)) (askL t p k) w) := by
  have HM := Lib.hid (fun w => reLimit_any t p k w)
  have HBD := Lib.hid (bnd_peak t p k)
  cases hask : askL t p k
  · have HY : Hid (tabA peakN t p k = []) := Lib.hid (tabA_no hask)
    rw [hask] at HM
    clear hask
    go_enter Try.func13, Try.ntmps13
    go_wp2_with fail
    refine (HM.out _).mono ?_
    rintro e w1 ⟨rfl, hb1⟩
    obtain ⟨c0, c1, hz, hb⟩ := map_block hb1
    clear hb1
    go_wp2_with fail
    go_ret2
    exact ⟨_, rfl, by rw [HY.out]; exact pairsAt_nil _ _, hb⟩
  · obtain ⟨K, rfl, hK1, hK, hg⟩ := askL_yes hask
    have hY := tabA_yes (g := peakN) hask
    have HL := Lib.hid (fun w => rePeaks_any t p K w hg hK)
    rw [← hY] at HL
    have hlen : (tabA peakN t p K).length = K := by rw [hY, tabL_length]
    obtain ⟨xs, hxs⟩ : ∃ xs, tabA peakN t p K = xs := ⟨_, rfl⟩
    rw [hxs] at HL HBD hlen ⊢
    have HMo := Lib.hid (fun v w h => reRecords_any xs v w (by omega) HBD.out h)
    rw [hask] at HM
    clear hask hg hxs hY hlen
    go_enter Try.func13, Try.ntmps13
    go_wp2_with fail
    refine (HM.out _).mono ?_
    rintro e w1 ⟨rfl, hb1⟩
    obtain ⟨c0, c1, hz, hb⟩ := map_block hb1
    clear hb1
    go_wp2_with fail
    refine (HL.out _).mono ?_
    rintro e w2 ⟨v, rfl, hrow, hb2⟩
    have HB := Lib.hid (hb.trans (hb2.mono (Nat.le_of_lt hz)))
    have HIN := Lib.hid hrow.isIn
    clear hb2 hb c0 c1 hrow
    go_wp2_with fail
    refine (HMo.out _ _ HIN.out).mono ?_
    rintro e w3 ⟨v3, rfl, hp3, hb3⟩
    have HB3 := Lib.hid (HB.out.trans (hb3.mono HB.out.size))
    have HP3 := Lib.hid (hp3.base HB.out.size)
    clear hb3 hp3
    go_wp2_with fail
    go_ret2
    exact ⟨v3, rfl, HP3.out, HB3.out⟩
end Go.Proofs.Ytponmblponfdaaa
