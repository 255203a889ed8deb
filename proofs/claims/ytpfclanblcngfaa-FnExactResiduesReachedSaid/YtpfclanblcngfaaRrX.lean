/-
  'ResiduesReached' of the program.
-/
import Derived.Test.YtpfclanblcngfaaRrT
import Derived.Test.YtpfclanblcngfaaRrI
import Derived.Test.YtpfclanblcngfaaKeysS
namespace Go.Proofs.Ytpfclanblcngfaa
open Go.RowKit Go.Maps
set_option linter.unusedVariables false

set_option maxHeartbeats 4000000 in
theorem iResiduesReached (t p M r : Int) (w : World) :
    Calls Try.prog 14 #[.agg #[.int .i64 t, .int .i64 p], .int .i64 M, .int .i64 r] w (RetInts (rrA t p M r) (askM t p M r) w) := by
  have HM := Lib.hid (fun w => isMap_any t p w)
  have HI := Lib.hid (fun w => isResidue_any r M w)
  cases hg : goodB t p
  · have HA : Hid (askM t p M r = false) := Lib.hid (by rw [askM, hg]; rfl)
    have HY := Lib.hid (rrA_no HA.out)
    rw [hg] at HM
    clear hg
    go_enter Try.func14, Try.ntmps14
    go_wp2_with fail
    refine (HM.out _).mono ?_
    rintro e w1 ⟨rfl, hb1⟩
    obtain ⟨c0, c1, hz, hb⟩ := map_block hb1
    clear hb1
    go_wp2_with fail
    go_ret2
    exact retI_none HY.out HA.out hb
  · rw [hg] at HM
    cases hr : (inB M 1 60 && inB r 0 (M - 1))
    · have HA : Hid (askM t p M r = false) := Lib.hid (by rw [askM, hr]; simp)
      have HY := Lib.hid (rrA_no HA.out)
      rw [hr] at HI
      clear hg hr
      go_enter Try.func14, Try.ntmps14
      go_wp2_with fail
      refine (HM.out _).mono ?_
      rintro e w1 ⟨rfl, hb1⟩
      obtain ⟨c0, c1, hz, hb⟩ := map_block hb1
      clear hb1
      go_wp2_with (go_at_call 23; refine (HI.out _).mono ?_; rintro e w' ⟨rfl, rfl⟩)
      go_ret2
      exact retI_none HY.out HA.out hb
    · have HA : Hid (askM t p M r = true) := Lib.hid (by rw [askM, hg, hr]; rfl)
      obtain ⟨_, ⟨hm1, hm2⟩, hr0, hr1⟩ := askM_iff.1 HA.out
      obtain ⟨K, rfl⟩ : ∃ K : Nat, M = (K : Int) := ⟨M.toNat, by omega⟩
      have HY : Hid (rrA t p K r = rcL t p K [r]) := Lib.hid (by rw [rrA, if_pos HA.out]; rfl)
      have hone : ∀ x ∈ [r], 0 ≤ x ∧ x < (K : Int) := fun x hx => by rw [List.mem_singleton.1 hx]; omega
      have HRE := Lib.hid (fun w => reachedFrom_any t p K (.slice (some ⟨w.heap.size, 0, none⟩) 1 1) [r] (w.alloc (.cells #[.int .i64 r] 3)) hg (by omega) (by omega) hone (by simp) (part_one w r))
      have HMEM := Lib.hid (fun x => mem_rcL (t := t) (p := p) (l := [r]) (show 0 < K by omega) hone x)
      have HSO := Lib.hid (rcL_sorted t p K [r])
      have hlen := rcL_len t p K [r]
      have HLEN := Lib.hid (show (rcL t p K [r]).length ≤ 1000000 by omega)
      rw [hr] at HI
      obtain ⟨zs, hzs⟩ : ∃ zs, rcL t p K [r] = zs := ⟨_, rfl⟩
      rw [hzs] at HY HMEM HSO HLEN
      clear hr hg hone hlen hzs
      go_enter Try.func14, Try.ntmps14
      go_wp2_with fail
      refine (HM.out _).mono ?_
      rintro e w1 ⟨rfl, hb1⟩
      obtain ⟨c0, c1, hz, hb⟩ := map_block hb1
      have HB := Lib.hid hb
      clear hb1 hb
      go_wp2_with (go_at_call 23; refine (HI.out _).mono ?_; rintro e w' ⟨rfl, rfl⟩)
      refine (HRE.out _).mono ?_
      rintro e w2 ⟨b, xs, rfl, hset, hx, hb1, hb2, hbel⟩
      have HSI := Lib.hid ((hset.ext (Nat.le_refl _) (fun x => (hx x).trans (HMEM.out x).symm)).isIn (by omega))
      have HB2 := Lib.hid (HB.out.trans (((Below.refl w.heap.size w1).alloc HB.out.size _).trans (hbel.mono (Nat.le_trans HB.out.size (by simp)))))
      have HLT := Lib.hid hb2
      clear hset hx hb1 hb2 hbel c0 c1 hz
      go_wp2_with fail
      refine (keysB_any (some b) w2).mono ?_
      rintro e w3 ⟨rfl, rfl⟩
      go_wp2_with fail
      refine (sortedS_any w2.heap.size b zs _ (by simp) (by go_simp) (HSI.out.under ((Below.refl w2.heap.size w2).alloc (Nat.le_refl _) _) HLT.out) HSO.out HLEN.out).mono ?_
      rintro e w4 ⟨v, rfl, hv, hb4⟩
      have HV := Lib.hid hv
      have HB4 := Lib.hid (HB2.out.trans (((Below.refl w.heap.size w2).alloc HB2.out.size _).trans (hb4.mono (Nat.le_trans HB2.out.size (by simp)))))
      clear hv hb4
      go_wp2_with fail
      go_ret2
      rw [HA.out, HY.out]
      exact ⟨_, rfl, ownsRow_base HV.out (Nat.le_trans HB2.out.size (by simp)), HB4.out⟩
end Go.Proofs.Ytpfclanblcngfaa
