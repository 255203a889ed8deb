/-
  'ResiduesReached' of the model.
-/
import Derived.Test.YtpfclanblcngfaaRnX
import Derived.Test.YtpfclanblcngfaaRrS
namespace Go.Proofs.Ytpfclanblcngfaa
open Go.RowKit
set_option linter.unusedVariables false

noncomputable def rrA (t p M r : Int) : List Int := if askM t p M r = true then rcL t p M.toNat [r] else []
theorem rrA_len (t p M r : Int) : (rrA t p M r).length ≤ 1000000000000 := by
  unfold rrA
  split
  · rename_i h
    obtain ⟨_, ⟨_, h2⟩, _⟩ := askM_iff.1 h
    exact Nat.le_trans (rcL_len _ _ _ _) (by omega)
  · simp
theorem rrA_no {t p M r : Int} (h : askM t p M r = false) : rrA t p M r = [] := by rw [rrA, if_neg (by simp [h])]
theorem part_one (w : World) (x : Int) : PartV (w.alloc (.cells #[.int .i64 x] 3)) (.slice (some ⟨w.heap.size, 0, none⟩) 1 1) [x] :=
  ⟨w.heap.size, 0, 1, rfl, by simp, by simp, by unfold maxLen; omega, fun j u hu => new_cell _ _ _ hu⟩

set_option maxHeartbeats 4000000 in
theorem sResiduesReached (t p M r : Int) (w : World) :
    Calls Try.prog 13 #[.agg #[.int .i64 t, .int .i64 p], .int .i64 M, .int .i64 r] w (RetInts (rrA t p M r) (askM t p M r) w) := by
  have HR := Lib.hid (fun w => rsModulus_any t p M w)
  have HI := Lib.hid (fun w => l1In_any r 0 (M - 1) w)
  cases ha : (goodB t p && inB M 1 60)
  · have HA : Hid (askM t p M r = false) := Lib.hid (by rw [askM, ← Bool.and_assoc, ha]; rfl)
    have HY := Lib.hid (rrA_no HA.out)
    rw [ha] at HR
    clear ha
    go_enter Try.func13, Try.ntmps13
    go_wp2_with fail
    refine (HR.out _).mono ?_
    rintro e w1 ⟨rfl, hb1⟩
    obtain ⟨c0, c1, hz, hb⟩ := map_block hb1
    clear hb1
    go_wp2_with fail
    go_ret2
    exact retI_none HY.out HA.out hb
  · have hm : 1 ≤ M ∧ M ≤ 60 := by simp [inB] at ha; omega
    obtain ⟨hm1, hm2⟩ := hm
    rw [ha] at HR
    cases hr : inB r 0 (M - 1)
    · have HA : Hid (askM t p M r = false) := Lib.hid (by rw [askM, hr]; simp)
      have HY := Lib.hid (rrA_no HA.out)
      rw [hr] at HI
      clear ha hr
      go_enter Try.func13, Try.ntmps13
      go_wp2_with fail
      refine (HR.out _).mono ?_
      rintro e w1 ⟨rfl, hb1⟩
      obtain ⟨c0, c1, hz, hb⟩ := map_block hb1
      clear hb1
      go_wp2_with (go_at_call 20; refine (HI.out _).mono ?_; rintro e w' ⟨rfl, rfl⟩)
      go_ret2
      exact retI_none HY.out HA.out hb
    · have HA : Hid (askM t p M r = true) := Lib.hid (by rw [askM, ← Bool.and_assoc, ha, hr]; rfl)
      obtain ⟨hg, _, hr0, hr1⟩ := askM_iff.1 HA.out
      obtain ⟨K, rfl⟩ : ∃ K : Nat, M = (K : Int) := ⟨M.toNat, by omega⟩
      have HY : Hid (rrA t p K r = rcL t p K [r]) := Lib.hid (by rw [rrA, if_pos HA.out]; rfl)
      have HN := Lib.hid (fun w => rsReached_any t p K (.slice (some ⟨w.heap.size, 0, none⟩) 1 1) [r] (w.alloc (.cells #[.int .i64 r] 3)) hg (by omega) (by omega) (fun x hx => by rw [List.mem_singleton.1 hx]; omega) (by simp) (part_one w r))
      rw [hr] at HI
      clear ha hr hg
      go_enter Try.func13, Try.ntmps13
      go_wp2_with fail
      refine (HR.out _).mono ?_
      rintro e w1 ⟨rfl, hb1⟩
      obtain ⟨c0, c1, hz, hb⟩ := map_block hb1
      have HB := Lib.hid hb
      have hsz := hb.size
      have HZ := Lib.hid hsz
      clear hb1 hb hsz
      go_wp2_with (go_at_call 20; refine (HI.out _).mono ?_; rintro e w' ⟨rfl, rfl⟩)
      refine (HN.out _).mono ?_
      rintro e w2 ⟨v, rfl, hv, hb2⟩
      have HV := Lib.hid hv
      have HB2 := Lib.hid (HB.out.trans (((Below.refl w.heap.size w1).alloc HZ.out _).trans (hb2.mono (by have := HZ.out; simp; omega))))
      clear hb2 hv
      go_wp2_with fail
      go_ret2
      rw [HA.out, HY.out]
      exact ⟨_, rfl, ownsRow_base HV.out (by have := HZ.out; simp; omega), HB2.out⟩
end Go.Proofs.Ytpfclanblcngfaa
