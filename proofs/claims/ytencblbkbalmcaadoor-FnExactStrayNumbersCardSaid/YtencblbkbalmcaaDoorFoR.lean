/-
  'FallOfResidue' of both.
-/
import Derived.Test.YtencblbkbalmcaaDoorFb
import Derived.Test.YtencblbkbalmcaaDoorRsf
import Derived.Test.YtencblbkbalmcaaDoorRsp
namespace Go.Proofs.YtencblbkbalmcaaDoor
open Go.RowKit
set_option linter.unusedVariables false

theorem isPower_any (k : Int) (w : World) :
    Calls Tryd.prog 50 #[.int .i64 k] w fun e w' => e = .returned (.bool (inB k 0 12)) ∧ w = w' := by
  by_cases h1 : 0 ≤ k <;> by_cases h2 : k ≤ 12
  all_goals
    go_enter Tryd.func50, Tryd.ntmps50
    go_wp2
    go_ret
    simp [inB, *]
/-- What FallOfResidue comes to. -/
def fao (t p r k : Int) : Int × Bool := if (goodB t p && inB k 0 12) = true ∧ 0 ≤ r ∧ r < 2 ^ k.toNat then (((fa t p r k.toNat : Nat) : Int), decide (fa t p r k.toNat ≠ 0)) else (0, false)

set_option maxHeartbeats 1000000 in
theorem sFallOfResidue (t p r k : Int) (w : World) :
    Calls Tryd.prog 19 #[.agg #[.int .i64 t, .int .i64 p], .int .i64 r, .int .i64 k] w fun e w' => e = .returned (.tuple #[.int .i64 (fao t p r k).1, .bool (fao t p r k).2]) ∧ Below w.heap.size w w' := by
  have HR := Lib.hid (fun w => rsPower_any t p k 12 w)
  cases ha : (goodB t p && inB k 0 12)
  · have HY : Hid (fao t p r k = (0, false)) := Lib.hid (by rw [fao, if_neg (by simp [ha])])
    rw [ha] at HR
    clear ha
    go_enter Tryd.func19, Tryd.ntmps19
    go_wp2_with fail
    refine (HR.out _).mono ?_
    rintro e w1 ⟨rfl, hb1⟩
    obtain ⟨c0, c1, hz, hb⟩ := map_block hb1
    clear hb1
    go_wp2_with fail
    go_ret2
    exact ⟨ret_ib (by rw [HY.out]) (by rw [HY.out]), hb⟩
  · obtain ⟨hg, hk⟩ : goodB t p = true ∧ inB k 0 12 = true := by simpa using ha
    obtain ⟨K, rfl, hK⟩ := inB_nat hk
    obtain ⟨pw1, pw0⟩ := pow2_le (k := K) (by omega)
    have hwr : IntKind.i64.wrap ((2 : Int) ^ K) = 2 ^ K := by rw [IntKind.wrap_i64]; omega
    have HI := Lib.hid (fun w => l1In_any r 0 ((2 : Int) ^ K - 1) w)
    have hK0 : 0 ≤ (K : Int) := by omega
    rw [ha] at HR
    by_cases hr : 0 ≤ r ∧ r < 2 ^ K
    · have HY : Hid (fao t p r K = (((fa t p r K : Nat) : Int), decide (fa t p r K ≠ 0))) := Lib.hid (by rw [fao, if_pos ⟨ha, hr.1, by simpa using hr.2⟩]; rfl)
      have HW := Lib.hid (fun w => woOf_any t p r K w hg (by omega) (by omega) (by omega))
      have HF := Lib.hid (fun w => rsFall_any t p r K w hg (by omega))
      have HD : Hid (decide (0 < fa t p r K) = decide (fa t p r K ≠ 0)) := Lib.hid (by rw [Bool.eq_iff_iff]; simp; omega)
      rw [show inB r 0 ((2 : Int) ^ K - 1) = true by simp [inB]; omega] at HI
      generalize wby (wrd t p r K) = s at HW HF
      generalize fa t p r K = A at HY HF HD
      rw [← HD.out] at HY
      clear ha hg hk HD hr
      go_enter Tryd.func19, Tryd.ntmps19
      go_wp2_with fail
      refine (HR.out _).mono ?_
      rintro e w1 ⟨rfl, hb1⟩
      obtain ⟨c0, c1, hz, hb⟩ := map_block hb1
      have HB := Lib.hid hb
      clear hb1 hb
      go_wp2_with (go_at_call 43; refine (HI.out _).mono ?_; rintro e w' ⟨rfl, rfl⟩)
      clear hwr
      go_region_with (first
        | (go_at_call 49; refine (HW.out _).mono ?_; rintro e w2 ⟨rfl, hb2⟩; have d0 := kept_cell hb2 hz c0; have d1 := kept_cell hb2 hz c1)
        | (go_at_call 48; refine (HF.out _).mono ?_; rintro e w3 ⟨rfl, hb3⟩))
      all_goals
        have HB3 : Hid (Below w.heap.size w w3) := Lib.hid (by
          first
            | exact (HB.out.drew.trans (hb2.mono HB.out.size)).trans (hb3.mono (HB.out.drew.trans (hb2.mono HB.out.size)).size)
            | exact (HB.out.trans (hb2.mono HB.out.size)).trans (hb3.mono (HB.out.trans (hb2.mono HB.out.size)).size))
        clear hb2 hb3
        go_wp2_with fail
        go_ret2
        exact ⟨ret_ib (by rw [HY.out]) (by rw [HY.out]), HB3.out⟩
    · have HY : Hid (fao t p r K = (0, false)) := Lib.hid (by rw [fao, if_neg (fun h => hr ⟨h.2.1, by simpa using h.2.2⟩)])
      rw [show inB r 0 ((2 : Int) ^ K - 1) = false by simp [inB]; omega] at HI
      clear ha hg hk hr
      go_enter Tryd.func19, Tryd.ntmps19
      go_wp2_with fail
      refine (HR.out _).mono ?_
      rintro e w1 ⟨rfl, hb1⟩
      obtain ⟨c0, c1, hz, hb⟩ := map_block hb1
      have HB := Lib.hid hb
      clear hb1 hb
      go_wp2_with (go_at_call 43; refine (HI.out _).mono ?_; rintro e w' ⟨rfl, rfl⟩)
      go_ret2
      exact ⟨ret_ib (by rw [HY.out]) (by rw [HY.out]), HB.out⟩

set_option maxHeartbeats 1000000 in
theorem iFallOfResidue (t p r k : Int) (w : World) (htab : Tab w) :
    Calls Tryd.prog 20 #[.agg #[.int .i64 t, .int .i64 p], .int .i64 r, .int .i64 k] w fun e w' => e = .returned (.tuple #[.int .i64 (fao t p r k).1, .bool (fao t p r k).2]) ∧ Below w.heap.size w w' := by
  have HM := Lib.hid (fun w => isMap_any t p w)
  have HP := Lib.hid (fun w => isPower_any k w)
  have HT := Lib.hid htab
  clear htab
  cases hg : goodB t p
  · have HY : Hid (fao t p r k = (0, false)) := Lib.hid (by rw [fao, if_neg (by simp [hg])])
    rw [hg] at HM
    clear hg
    go_enter Tryd.func20, Tryd.ntmps20
    go_wp2_with fail
    refine (HM.out _).mono ?_
    rintro e w1 ⟨rfl, hb1⟩
    obtain ⟨c0, c1, hz, hb⟩ := map_block hb1
    clear hb1
    go_wp2_with fail
    go_ret2
    exact ⟨ret_ib (by rw [HY.out]) (by rw [HY.out]), hb⟩
  · rw [hg] at HM
    cases hk : inB k 0 12
    · have HY : Hid (fao t p r k = (0, false)) := Lib.hid (by rw [fao, if_neg (by simp [hk])])
      rw [hk] at HP
      clear hg hk
      go_enter Tryd.func20, Tryd.ntmps20
      go_wp2_with fail
      refine (HM.out _).mono ?_
      rintro e w1 ⟨rfl, hb1⟩
      obtain ⟨c0, c1, hz, hb⟩ := map_block hb1
      clear hb1
      go_wp2_with (go_at_call 50; refine (HP.out _).mono ?_; rintro e w' ⟨rfl, rfl⟩)
      go_ret2
      exact ⟨ret_ib (by rw [HY.out]) (by rw [HY.out]), hb⟩
    · obtain ⟨K, rfl, hK⟩ := inB_nat hk
      obtain ⟨pw1, pw0⟩ := pow2_le (k := K) (by omega)
      rw [hk] at HP
      by_cases hr0 : 0 ≤ r
      · have hd1 : decide (r < 0) = false := by simpa using hr0
        by_cases hr1 : r < 2 ^ K
        · have hd2 : decide ((2 : Int) ^ K ≤ r) = false := by simpa using hr1
          have HY : Hid (fao t p r K = (((fa t p r K : Nat) : Int), decide (fa t p r K ≠ 0))) := Lib.hid (by rw [fao, if_pos ⟨by rw [hg, hk]; rfl, hr0, by simpa using hr1⟩]; rfl)
          have HF := Lib.hid (fun w => fallOf_any t p r K w hg (by omega) hr0 (by omega))
          have HD : Hid ((((fa t p r K : Nat) : Int) != 0) = decide (fa t p r K ≠ 0)) := Lib.hid (by rw [Bool.eq_iff_iff]; simp)
          generalize fa t p r K = A at HY HF HD
          rw [← HD.out] at HY
          have HK12 := Lib.hid hK
          clear hg hk HD
          go_enter Tryd.func20, Tryd.ntmps20
          go_wp2_with fail
          refine (HM.out _).mono ?_
          rintro e w1 ⟨rfl, hb1⟩
          obtain ⟨c0, c1, hz, hb⟩ := map_block hb1
          have q := tab_at (tab_below HT.out hb (Nat.le_refl _)) (k := K) (by omega)
          have hki : (K : Int) < 16 := by omega
          have hki2 : K < 16 := by omega
          have HB := Lib.hid hb
          clear hb1 hb
          go_wp2_with (go_at_call 50; refine (HP.out _).mono ?_; rintro e w' ⟨rfl, rfl⟩)
          refine (HF.out _).mono ?_
          rintro e w2 ⟨rfl, hb2⟩
          have HB2 := Lib.hid (HB.out.trans (hb2.mono HB.out.size))
          clear hb2 q c0 c1
          go_wp2_with fail
          go_ret2
          exact ⟨ret_ib (by rw [HY.out]) (by rw [HY.out]), HB2.out⟩
        · have hd2 : decide ((2 : Int) ^ K ≤ r) = true := by simp; omega
          have HY : Hid (fao t p r K = (0, false)) := Lib.hid (by rw [fao, if_neg (fun h => hr1 (by simpa using h.2.2))])
          clear hg hk
          go_enter Tryd.func20, Tryd.ntmps20
          go_wp2_with fail
          refine (HM.out _).mono ?_
          rintro e w1 ⟨rfl, hb1⟩
          obtain ⟨c0, c1, hz, hb⟩ := map_block hb1
          have q := tab_at (tab_below HT.out hb (Nat.le_refl _)) (k := K) (by omega)
          have hki : (K : Int) < 16 := by omega
          have hki2 : K < 16 := by omega
          clear hb1
          go_wp2_with (go_at_call 50; refine (HP.out _).mono ?_; rintro e w' ⟨rfl, rfl⟩)
          go_ret2
          exact ⟨ret_ib (by rw [HY.out]) (by rw [HY.out]), hb⟩
      · have hd1 : decide (r < 0) = true := by simp; omega
        have HY : Hid (fao t p r K = (0, false)) := Lib.hid (by rw [fao, if_neg (fun h => hr0 h.2.1)])
        clear hg hk
        go_enter Tryd.func20, Tryd.ntmps20
        go_wp2_with fail
        refine (HM.out _).mono ?_
        rintro e w1 ⟨rfl, hb1⟩
        obtain ⟨c0, c1, hz, hb⟩ := map_block hb1
        clear hb1
        go_wp2_with (go_at_call 50; refine (HP.out _).mono ?_; rintro e w' ⟨rfl, rfl⟩)
        go_ret2
        exact ⟨ret_ib (by rw [HY.out]) (by rw [HY.out]), hb⟩
end Go.Proofs.YtencblbkbalmcaaDoor
