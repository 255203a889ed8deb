/-
  'ResiduesNext' of both.
-/
import Derived.Test.YtpfclanblcngfaaRnI
namespace Go.Proofs.Ytpfclanblcngfaa
open Go.RowKit
set_option linter.unusedVariables false

theorem askM_iff {t p M r : Int} : askM t p M r = true ↔ goodB t p = true ∧ (1 ≤ M ∧ M ≤ 60) ∧ 0 ≤ r ∧ r < M := by
  simp only [askM, inB, Bool.and_eq_true, decide_eq_true_eq]
  constructor
  · rintro ⟨h1, h2, h3⟩; exact ⟨h1, h2, by omega, by omega⟩
  · rintro ⟨h1, h2, h3⟩; exact ⟨h1, h2, by omega, by omega⟩

set_option maxHeartbeats 2000000 in
theorem sResiduesNext (t p M r : Int) (w : World) :
    Calls Try.prog 7 #[.agg #[.int .i64 t, .int .i64 p], .int .i64 M, .int .i64 r] w (RetInts (nxA t p M r) (askM t p M r) w) := by
  have HR := Lib.hid (fun w => rsModulus_any t p M w)
  have HI := Lib.hid (fun w => l1In_any r 0 (M - 1) w)
  cases ha : (goodB t p && inB M 1 60)
  · have HA : Hid (askM t p M r = false) := Lib.hid (by rw [askM, ← Bool.and_assoc, ha]; rfl)
    have HY : Hid (nxA t p M r = []) := Lib.hid (by rw [nxA, if_neg (by rw [HA.out]; simp)])
    rw [ha] at HR
    clear ha
    go_enter Try.func7, Try.ntmps7
    go_wp2_with fail
    refine (HR.out _).mono ?_
    rintro e w1 ⟨rfl, hb1⟩
    obtain ⟨c0, c1, hz, hb⟩ := map_block hb1
    clear hb1
    go_wp2_with fail
    go_ret2
    rw [HA.out, HY.out]
    exact ⟨_, rfl, intsAt_nil _ _, hb⟩
  · have hm : 1 ≤ M ∧ M ≤ 60 := by simp [inB] at ha; omega
    obtain ⟨hm1, hm2⟩ := hm
    rw [ha] at HR
    cases hr : inB r 0 (M - 1)
    · have HA : Hid (askM t p M r = false) := Lib.hid (by rw [askM, hr]; simp)
      have HY : Hid (nxA t p M r = []) := Lib.hid (by rw [nxA, if_neg (by rw [HA.out]; simp)])
      rw [hr] at HI
      clear ha hr
      go_enter Try.func7, Try.ntmps7
      go_wp2_with fail
      refine (HR.out _).mono ?_
      rintro e w1 ⟨rfl, hb1⟩
      obtain ⟨c0, c1, hz, hb⟩ := map_block hb1
      clear hb1
      go_wp2_with (go_at_call 20; refine (HI.out _).mono ?_; rintro e w' ⟨rfl, rfl⟩)
      go_ret2
      rw [HA.out, HY.out]
      exact ⟨_, rfl, intsAt_nil _ _, hb⟩
    · have HA : Hid (askM t p M r = true) := Lib.hid (by rw [askM, ← Bool.and_assoc, ha, hr]; rfl)
      have HY : Hid (nxA t p M r = nbL t p M r) := Lib.hid (by rw [nxA, if_pos HA.out])
      obtain ⟨hg, _, hr0, hr1⟩ := askM_iff.1 HA.out
      have HN := Lib.hid (fun w => rsNext_any t p M r w hg hm1 hm2 hr0 hr1)
      rw [hr] at HI
      clear ha hr hg
      go_enter Try.func7, Try.ntmps7
      go_wp2_with fail
      refine (HR.out _).mono ?_
      rintro e w1 ⟨rfl, hb1⟩
      obtain ⟨c0, c1, hz, hb⟩ := map_block hb1
      have HB := Lib.hid hb
      clear hb1 hb
      go_wp2_with (go_at_call 20; refine (HI.out _).mono ?_; rintro e w' ⟨rfl, rfl⟩)
      refine (HN.out _).mono ?_
      rintro e w2 ⟨v, rfl, hv, hb2⟩
      have HV := Lib.hid hv
      have HB2 := Lib.hid (HB.out.trans (hb2.mono HB.out.size))
      clear hb2 hv
      go_wp2_with fail
      go_ret2
      rw [HA.out, HY.out]
      exact ⟨_, rfl, ownsRow_base HV.out.isAt HB.out.size, HB2.out⟩

set_option maxHeartbeats 4000000 in
theorem iResiduesNext (t p M r : Int) (w : World) :
    Calls Try.prog 9 #[.agg #[.int .i64 t, .int .i64 p], .int .i64 M, .int .i64 r] w (RetIn (nxA t p M r) (askM t p M r) w) := by
  have HM := Lib.hid (fun w => isMap_any t p w)
  have HI := Lib.hid (fun w => isResidue_any r M w)
  cases hg : goodB t p
  · have HA : Hid (askM t p M r = false) := Lib.hid (by rw [askM, hg]; rfl)
    have HY : Hid (nxA t p M r = []) := Lib.hid (by rw [nxA, if_neg (by rw [HA.out]; simp)])
    rw [hg] at HM
    clear hg
    go_enter Try.func9, Try.ntmps9
    go_wp2_with fail
    refine (HM.out _).mono ?_
    rintro e w1 ⟨rfl, hb1⟩
    obtain ⟨c0, c1, hz, hb⟩ := map_block hb1
    clear hb1
    go_wp2_with fail
    go_ret2
    exact retIn_none HY.out HA.out hb
  · rw [hg] at HM
    cases hr : (inB M 1 60 && inB r 0 (M - 1))
    · have HA : Hid (askM t p M r = false) := Lib.hid (by rw [askM, hr]; simp)
      have HY : Hid (nxA t p M r = []) := Lib.hid (by rw [nxA, if_neg (by rw [HA.out]; simp)])
      rw [hr] at HI
      clear hg hr
      go_enter Try.func9, Try.ntmps9
      go_wp2_with fail
      refine (HM.out _).mono ?_
      rintro e w1 ⟨rfl, hb1⟩
      obtain ⟨c0, c1, hz, hb⟩ := map_block hb1
      clear hb1
      go_wp2_with (go_at_call 23; refine (HI.out _).mono ?_; rintro e w' ⟨rfl, rfl⟩)
      go_ret2
      exact retIn_none HY.out HA.out hb
    · have HA : Hid (askM t p M r = true) := Lib.hid (by rw [askM, hg, hr]; rfl)
      have HY : Hid (nxA t p M r = nbL t p M r) := Lib.hid (by rw [nxA, if_pos HA.out])
      obtain ⟨_, ⟨hm1, hm2⟩, hr0, hr1⟩ := askM_iff.1 HA.out
      have HN := Lib.hid (fun w => residuesBehind_any t p M r w hg hm1 hm2 hr0 hr1)
      have HMM := Lib.hid (nbL_mm t p M r)
      rw [hr] at HI
      obtain ⟨a, ha⟩ : ∃ a, nb t p M r 0 = a := ⟨_, rfl⟩
      obtain ⟨b, hb⟩ : ∃ b, nb t p M r 1 = b := ⟨_, rfl⟩
      rw [ha, hb] at HN HMM
      clear hr hg ha hb
      go_enter Try.func9, Try.ntmps9
      go_wp2_with fail
      refine (HM.out _).mono ?_
      rintro e w1 ⟨rfl, hb1⟩
      obtain ⟨c0, c1, hz, hb⟩ := map_block hb1
      have HB := Lib.hid hb
      clear hb1 hb
      go_wp2_with (go_at_call 23; refine (HI.out _).mono ?_; rintro e w' ⟨rfl, rfl⟩)
      refine (HN.out _).mono ?_
      rintro e w2 ⟨rfl, hb2⟩
      have HB2 := Lib.hid (HB.out.trans (hb2.mono HB.out.size))
      clear hb2 c0 c1
      go_wp2_with fail
      have ht3 : TwoAt (w2.alloc (.cells #[.int .i64 a, .int .i64 b] 39)) w2.heap.size a b := ⟨by go_simp, by go_simp, by go_simp, by go_simp, by simp⟩
      have HB3 := Lib.hid (HB2.out.alloc HB2.out.size (.cells #[.int .i64 a, .int .i64 b] 39))
      refine (sort_any w2.heap.size a b _ ht3).mono ?_
      rintro e w4 ⟨rfl, ht4, hg4⟩
      have hsz2 := HB2.out.size
      have HB4 := Lib.hid (HB3.out.grown hg4 HB3.out.size (fun k e => by cases e; exact hsz2))
      have HT4 := Lib.hid ht4
      clear ht4 hg4 ht3
      go_wp2_with fail
      refine (compact_any w2.heap.size _ _ _ HT4.out).mono ?_
      rintro e w5 ⟨v, rfl, hv, hob, hs5, hg5⟩
      have HB5 := Lib.hid (HB4.out.grown hg5 HB4.out.size (fun k e => by cases e; exact hsz2))
      rw [HMM.out] at hv
      have HV := Lib.hid hv
      have HOB := Lib.hid hob
      have hlt := HT4.out.lt
      clear hv hob hg5
      go_wp2_with fail
      go_ret2
      rw [HA.out, HY.out]
      refine ⟨_, rfl, HV.out, fun g h => ?_, HB5.out⟩
      have h2 : v.ownBlock = some g := h
      rw [HOB.out] at h2
      cases h2
      omega
end Go.Proofs.Ytpfclanblcngfaa
