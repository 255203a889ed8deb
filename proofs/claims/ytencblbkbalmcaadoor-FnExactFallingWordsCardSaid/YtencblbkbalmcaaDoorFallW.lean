/-
  'FallingWords' of both.
-/
import Derived.Test.YtencblbkbalmcaaDoorFallS
namespace Go.Proofs.YtencblbkbalmcaaDoor
open Go.RowKit
set_option linter.unusedVariables false

theorem fwX_yes {t p : Int} {K : Nat} (h : askF t p K = true) : fwX t p K = fwL K (pats (fls t K) (2 ^ K)) := by rw [fwX, if_pos h]; rfl

theorem sFallingWords (t p k : Int) (w : World) :
    Calls Tryd.prog 14 #[.agg #[.int .i64 t, .int .i64 p], .int .i64 k] w (RetStrs (fwX t p k) (askF t p k) w) := by
  have HM := Lib.hid (fun w => mpGood_any t p w)
  have HI := Lib.hid (fun w => l1In_any k 0 8 w)
  cases hg : goodB t p
  · have HA : Hid (askF t p k = false) := Lib.hid (by rw [askF, hg]; rfl)
    have HY := Lib.hid (fwX_no HA.out)
    rw [hg] at HM
    clear hg
    generalize fwX t p k = xs at HY ⊢
    generalize askF t p k = ok at HA ⊢
    go_enter Tryd.func14, Tryd.ntmps14
    go_wp2_with fail
    refine (HM.out _).mono ?_
    rintro e w1 ⟨rfl, hb1⟩
    obtain ⟨c0, c1, hz, hb⟩ := map_block hb1
    clear hb1
    go_wp2_with fail
    go_ret2
    exact retS_none HY.out HA.out hb
  · cases hk : inB k 0 8
    · have HA : Hid (askF t p k = false) := Lib.hid (by rw [askF, hk, Bool.and_false])
      have HY := Lib.hid (fwX_no HA.out)
      rw [hg] at HM
      rw [hk] at HI
      clear hg hk
      generalize fwX t p k = xs at HY ⊢
      generalize askF t p k = ok at HA ⊢
      go_enter Tryd.func14, Tryd.ntmps14
      go_wp2_with fail
      refine (HM.out _).mono ?_
      rintro e w1 ⟨rfl, hb1⟩
      obtain ⟨c0, c1, hz, hb⟩ := map_block hb1
      clear hb1
      go_wp2_with (go_at_call 43; refine (HI.out _).mono ?_; rintro e w' ⟨rfl, rfl⟩)
      go_ret2
      exact retS_none HY.out HA.out hb
    · have HA : askF t p k = true := by rw [askF, hg, hk]; rfl
      obtain ⟨k0, k1⟩ : 0 ≤ k ∧ k ≤ 8 := by simpa [inB] using hk
      obtain ⟨K, rfl⟩ : ∃ K : Nat, k = K := ⟨k.toNat, by omega⟩
      rw [fwX_yes HA, HA]
      exact sFalling_yes t p K w hg (by omega)

theorem iFallingWords (t p k : Int) (w : World) (htab : Tab w) :
    Calls Tryd.prog 15 #[.agg #[.int .i64 t, .int .i64 p], .int .i64 k] w (RetStrs (fwX t p k) (askF t p k) w) := by
  have HM := Lib.hid (fun w => isMap_any t p w)
  cases hg : goodB t p
  · have HA : Hid (askF t p k = false) := Lib.hid (by rw [askF, hg]; rfl)
    have HY := Lib.hid (fwX_no HA.out)
    rw [hg] at HM
    clear hg htab
    generalize fwX t p k = xs at HY ⊢
    generalize askF t p k = ok at HA ⊢
    go_enter Tryd.func15, Tryd.ntmps15
    go_wp2_with fail
    refine (HM.out _).mono ?_
    rintro e w1 ⟨rfl, hb1⟩
    obtain ⟨c0, c1, hz, hb⟩ := map_block hb1
    clear hb1
    go_wp2_with fail
    go_ret2
    exact retS_none HY.out HA.out hb
  · by_cases hk : 0 ≤ k ∧ k ≤ 8
    · obtain ⟨K, rfl⟩ : ∃ K : Nat, k = K := ⟨k.toNat, by omega⟩
      have HA : askF t p K = true := by rw [askF, hg]; simp [inB]; omega
      rw [fwX_yes HA, HA]
      exact iFalling_yes t p K w hg (by omega) htab
    · have HA : Hid (askF t p k = false) := Lib.hid (by rw [askF, hg]; simp [inB]; omega)
      have HY := Lib.hid (fwX_no HA.out)
      rw [hg] at HM
      clear hg htab
      by_cases k0 : 0 ≤ k
      · have hd0 : decide (k < 0) = false := by simpa using k0
        have hd1 : decide (8 < k) = true := by simp; omega
        clear hk k0
        generalize fwX t p k = xs at HY ⊢
        generalize askF t p k = ok at HA ⊢
        go_enter Tryd.func15, Tryd.ntmps15
        go_wp2_with fail
        refine (HM.out _).mono ?_
        rintro e w1 ⟨rfl, hb1⟩
        obtain ⟨c0, c1, hz, hb⟩ := map_block hb1
        clear hb1
        go_wp2_with fail
        go_ret2
        exact retS_none HY.out HA.out hb
      · have hd0 : decide (k < 0) = true := by simpa using k0
        clear hk k0
        generalize fwX t p k = xs at HY ⊢
        generalize askF t p k = ok at HA ⊢
        go_enter Tryd.func15, Tryd.ntmps15
        go_wp2_with fail
        refine (HM.out _).mono ?_
        rintro e w1 ⟨rfl, hb1⟩
        obtain ⟨c0, c1, hz, hb⟩ := map_block hb1
        clear hb1
        go_wp2_with fail
        go_ret2
        exact retS_none HY.out HA.out hb
end Go.Proofs.YtencblbkbalmcaaDoor
