/-
  'IsOneToOne' of the model.
-/
import Derived.Test.YtbhmplccjaijjaaOneM
import Derived.Test.YtbhmplccjaijjaaGcdU
import Derived.Deep.RegionWith
import Derived.Deep.CutRange
import Derived.RegionTactic
import Derived.Deep.RegionHeld3
namespace Go.Proofs.Ytbhmplccjaijjaa
open Go.RowKit
set_option linter.unusedVariables false

set_option maxHeartbeats 1000000 in
theorem omCommon_any (a b : Int) (w : World) (a0 : 0 ≤ a) (b0 : 0 ≤ b) (b1 : b ≤ 4611686018427387904) :
    Calls Try.prog 96 #[.int .i64 a, .int .i64 b] w fun e w' => e = .returned (.int .i64 (Int.gcd a b : Nat)) ∧ Below w.heap.size w w' := by
  have HA := Lib.hid (And.intro a0 (And.intro b0 b1))
  clear a0 b0 b1
  go_enter Try.func96, Try.ntmps96
  go_wp2
  go_loopw [0, 1] (fun x y wr => ∃ u v : Int, x = .int .i64 u ∧ y = .int .i64 v ∧ Int.gcd u v = Int.gcd a b ∧ 0 ≤ u ∧ 0 ≤ v ∧ v ≤ 4611686018427387904 ∧ Below w.heap.size w wr) (fun _ y _ => (intOf y).natAbs)
  case atStart => exact ⟨a, b, rfl, rfl, rfl, HA.out.1, HA.out.2.1, HA.out.2.2, Below.refl _ _⟩
  case round =>
    obtain ⟨u, v, rfl, rfl, hg, u0, v0, v1, hbel⟩ := hrel
    have HB := Lib.hid hbel
    have HGC := Lib.hid hg
    clear hg hbel
    by_cases hv : v = 0
    · subst hv
      have hgz := gcd_zero u
      rw [if_pos u0] at hgz
      have HGZ := Lib.hid hgz
      clear hgz
      go_wp2
      go_ret
      refine ⟨ret_int ?_, HB.out⟩
      rw [← HGC.out, HGZ.out]
    · have hv3 : 0 < v := by omega
      obtain ⟨m0, m1, m2⟩ := tmod_small (a := u) hv (B := 4611686018427387904) (by omega) v1
      have hn := Int.tmod_nonneg v u0
      have he : u.tmod v = u % v := Int.tmod_eq_emod_of_nonneg u0
      have hgt := gcd_tmod u v
      rw [he] at m0 m1 m2 hn hgt
      have HT := Lib.hid (hgt.trans HGC.out)
      have HM := Lib.hid m2
      have HM0 := Lib.hid (And.intro hn m1)
      have hv1 : (v != 0) = true := by simpa using hv
      have hv2 : (v == 0) = false := by simpa using hv
      clear m2 m0 m1 hn he hgt
      go_wp2
      go_region
      go_wp2
      exact ⟨⟨v, u % v, rfl, rfl, HT.out, v0, HM0.out.1, HM0.out.2, HB.out.drew⟩, HM.out⟩

set_option maxRecDepth 100000 in
set_option maxHeartbeats 8000000 in
theorem omOne_any (ps : List Pt) (v : Value) (w : World) (hg : omB ps = true) (h : OthIn w v ps) :
    Calls Try.prog 74 #[v] w fun e w' => e = .returned (.bool (oneB ps)) ∧ Below w.heap.size w w' := by
  obtain ⟨a, c, rfl, hx⟩ := h.rd
  have HO := Lib.hid (fun W (hb : Below w.heap.size w W) => h.kept hb)
  have HIMG := Lib.hid (fun r W (hr : r < ps.length) (hb : Below w.heap.size w W) => omImage_any ps r _ W hg hr (h.kept hb))
  have HAT := Lib.hid (fun r (hr : r < ps.length) => imAt_ok hg hr)
  have HA2 := Lib.hid (fun r (hr : r < ps.length) => imMod_le (omB_at hg hr) (omB_len hg).2)
  have HNO := Lib.hid (fun i j (hj : j < ps.length) (hi : i < j) h => one_no hj hi h)
  have HFS := Lib.hid (fun j (h : j < ps.length) => free_step h)
  have HEND := Lib.hid (one_end (ps := ps))
  have HREV := Lib.hid (fun j (h : j < ps.length) => imT_rev h)
  have HIN := Lib.hid (fun j (h : j ≤ ps.length) => imT_in hg h)
  have HTL := Lib.hid (fun j (h : j ≤ ps.length) => imT_len h)
  have hl8 := omB_len hg
  have HA3 : Hid (∀ r, r < ps.length → (imAt ps r).2 ≤ 160) := Lib.hid (fun r hr => HA2.out r hr)
  have HF0 : Hid (freeI (imT ps 0).reverse = true ∧ FrI (imT ps 0).reverse 0 1) := Lib.hid ⟨rfl, frI_nil⟩
  obtain ⟨K, hK⟩ : ∃ K, ps.length = K := ⟨_, rfl⟩
  rw [hK] at HIMG HAT HA3 HNO HFS HEND HREV HIN HTL hl8 hx ⊢
  obtain ⟨hl1, hl2⟩ := hl8
  have HB := Lib.hid (below_new w (.cells #[.slice a K c] 29))
  have HBo := Lib.hid (Bo.new w (.slice a K c) 29)
  clear hg h hx hK HA2
  go_enter Try.func74, Try.ntmps74
  go_wp2_with fail
  go_loopw [3, 4, 5, 6, 7, 8, 9, 13] (fun n d _ _ _ _ _ x wr => ∃ (j : Nat) (nn dd : Int), j ≤ K ∧ x = .int .i64 j ∧ n = .int .i64 nn ∧ d = .int .i64 dd ∧ FrI (imT ps j).reverse nn dd ∧ freeI (imT ps j).reverse = true ∧ Bo wr w.heap.size (.slice a K c) ∧ Below w.heap.size w wr) (fun _ _ _ _ _ _ _ x _ => K - (RowKit.intOf x).toNat)
  case atStart => exact ⟨0, 0, 1, Nat.zero_le _, rfl, rfl, rfl, HF0.out.2, HF0.out.1, HBo.out, HB.out⟩
  case round =>
    clear HF0 HB HBo
    obtain ⟨j, nn, dd, hj, rfl, rfl, rfl, hfr, hfree, hbo, hbel⟩ := hrel
    have HFR := Lib.hid hfr
    have HFE := Lib.hid hfree
    have HBR := Lib.hid hbel
    have HBO := Lib.hid hbo
    by_cases hlt : j < K
    · have hlt2 : (j : Int) < (K : Int) := by omega
      have hj0 : (0 : Int) ≤ (j : Int) := by omega
      obtain ⟨p0, p1⟩ := hbo
      have HI1 := Lib.hid (HIMG.out j wr hlt hbel)
      clear hfr hfree hbel
      go_wp2_with fail
      refine HI1.out.mono ?_
      rintro e w1 ⟨b1, rfl, hb1, hb2, hpa, hbl1⟩
      unfold slP
      have HB1 := Lib.hid (HBR.out.trans (hbl1.mono HBR.out.size))
      have HBO1 := Lib.hid (HBO.out.kept hbl1)
      have HPA := Lib.hid hpa
      have hz1 := hbl1.size
      clear hpa hbl1 p0 p1 HI1 HBR HBO
      go_wp2_with fail
      go_loopw [7, 8] (fun y _ wy => ∃ i : Nat, i ≤ j ∧ y = .int .i64 i ∧ (∀ i', i' < i → meetB (imAt ps j) (imAt ps i') = false) ∧ Bo wy w.heap.size (.slice a K c) ∧ PairAt wy b1 (imAt ps j) ∧ b1 < wy.heap.size ∧ Below w.heap.size w wy) (fun y _ _ => j - (RowKit.intOf y).toNat)
      case atStart => exact ⟨0, Nat.zero_le _, rfl, fun i' hi' => by omega, HBO1.out, HPA.out, hb2, HB1.out⟩
      case round =>
        clear HB1 HBO1 HPA
        obtain ⟨i, hi, rfl, hno, hbo, hpa, hbz, hbel⟩ := hrel
        have HNI := Lib.hid hno
        have HBR := Lib.hid hbel
        have HBO := Lib.hid hbo
        have HPA := Lib.hid hpa
        by_cases hij : i < j
        · have hij2 : (i : Int) < (j : Int) := by omega
          have hi0 : (0 : Int) ≤ (i : Int) := by omega
          obtain ⟨p0, p1⟩ := hbo
          have HI1 := Lib.hid (HIMG.out i _ (by omega) hbel)
          clear hno hpa hbel
          go_wp2_with fail
          refine HI1.out.mono ?_
          rintro e w3 ⟨b2, rfl, hc1, hc2, hpb, hbl3⟩
          unfold slP
          have HB3 := Lib.hid (HBR.out.trans (hbl3.mono HBR.out.size))
          have HBO3 := Lib.hid (HBO.out.kept hbl3)
          have HPA3 := Lib.hid (HPA.out.of (hbl3.block b1 hbz))
          have hbz3 := Nat.lt_of_lt_of_le hbz hbl3.size
          have hpa3 := HPA3.out
          have hat1 := HAT.out j hlt
          have hat2 := HAT.out i (by omega)
          have hat3 := HA3.out j hlt
          have hat4 := HA3.out i (by omega)
          have HNOI := Lib.hid (fun h => HNO.out i j hlt hij h)
          have HMB : Hid (meetB (imAt ps j) (imAt ps i) = decide (((imAt ps j).1 - (imAt ps i).1) % (Int.gcd (imAt ps j).2 (imAt ps i).2 : Int) = 0)) := Lib.hid rfl
          obtain ⟨mb, hmb⟩ : ∃ b, meetB (imAt ps j) (imAt ps i) = b := ⟨_, rfl⟩
          rw [hmb] at HMB HNOI
          have HMBE := Lib.hid hmb
          obtain ⟨q, hq⟩ : ∃ q, imAt ps j = q := ⟨_, rfl⟩
          obtain ⟨q', hq'⟩ : ∃ q, imAt ps i = q := ⟨_, rfl⟩
          rw [hq] at hpa3 hat1 hat3 HMB
          rw [hq'] at hpb hat2 hat4 HMB
          obtain ⟨x, y⟩ := q
          obtain ⟨x', y'⟩ := q'
          dsimp only at hat1 hat2 hat3 hat4
          obtain ⟨a1, a2, a3⟩ := hat1
          obtain ⟨a4, a5, a6⟩ := hat2
          obtain ⟨q0, q1, _, _⟩ := hpa3
          obtain ⟨q2, q3, _, _⟩ := hpb
          dsimp only at q0 q1 q2 q3
          have HC := Lib.hid (fun W => omCommon_any y y' W (by omega) (by omega) (by omega))
          have hgp := gcd_pos (a := y) (b := y') (by omega)
          have hgl := gcd_le (a := y) (b := y') (B := 160) (by omega) (by omega)
          obtain ⟨g, hgg⟩ : ∃ g : Int, ((Int.gcd y y' : Nat) : Int) = g := ⟨_, rfl⟩
          dsimp only at HMB
          rw [hgg] at HC HMB hgp hgl
          have hg0 : (g == 0) = false := by simp; omega
          have hg1 : ¬ (g = 0) := by omega
          have HM2 : Hid (((x - x').tmod g == 0) = mb) := Lib.hid (by rw [tmod_zero_b]; exact HMB.out.symm)
          have hws : IntKind.i64.wrap (x - x') = x - x' := IntWalk.i64_in _ (by omega)
          clear hmb hq hq' hgg p0 p1 hbl3 HI1 hc1
          go_upto_region 10 with fail
          go_cut [42] from 27 to 42 (fun s42 wx => s42 = .bool mb ∧ Hid (Below w3.heap.size w3 wx))
          case first =>
            go_region_held3 (fun w' => w'.cell? ⟨b1, 0, none⟩ = some (.int .i64 x) ∧ w'.cell? ⟨b1, 1, none⟩ = some (.int .i64 y) ∧ w'.cell? ⟨b2, 0, none⟩ = some (.int .i64 x') ∧ w'.cell? ⟨b2, 1, none⟩ = some (.int .i64 y')) (go_keep)
              ((go_at_call 96; refine (HC.out _).mono ?_; rintro e w6 ⟨rfl, hb6⟩; have HB6 : Hid (Below w3.heap.size w3 w6) := Lib.hid (by first | exact hb6 | exact (Below.refl _ _).drew.trans hb6 | exact (Below.refl _ _).drew.drew.trans hb6); clear hb6; have c0 := (HB6.out.cell (p := ⟨b1, 0, none⟩) hbz3).trans q0; have c1 := (HB6.out.cell (p := ⟨b1, 1, none⟩) hbz3).trans q1; have c2 := (HB6.out.cell (p := ⟨b2, 0, none⟩) hc2).trans q2; have c3 := (HB6.out.cell (p := ⟨b2, 1, none⟩) hc2).trans q3))
            all_goals
              go_wp2_with fail
              go_meet
              case rel => exact ⟨congrArg Value.bool HM2.out, by first | exact HB6 | exact Lib.hid HB6.out.drew | exact Lib.hid HB6.out.drew.drew⟩
          case rest =>
            obtain ⟨rfl, HBC⟩ := hcut
            have HB4 := Lib.hid (HB3.out.trans (HBC.out.mono HB3.out.size))
            have HBO4 := Lib.hid (HBO3.out.kept HBC.out)
            have HPA4 := Lib.hid (HPA3.out.of (HBC.out.block b1 hbz3))
            have hbz4 := Nat.lt_of_lt_of_le hbz3 HBC.out.size
            cases mb with
            | true =>
              go_wp2_with fail
              go_ret
              exact ⟨ret_bool (HNOI.out trivial).symm, HB4.out⟩
            | false =>
              go_wp2_with fail
              exact ⟨⟨i + 1, hij, by go_num, fun i' hi' => (Nat.lt_or_ge i' i).elim (fun h => HNI.out i' h) (fun h => (by have h9 : i' = i := (by omega); subst h9; exact HMBE.out)), HBO4.out, HPA4.out, hbz4, HB4.out⟩, by simp [RowKit.intOf]; omega⟩
        · obtain rfl : i = j := by omega
          have hij2 : ¬ ((i : Int) < (i : Int)) := by omega
          have hpa3 := hpa
          have hat1 := HAT.out i hlt
          have hat3 := HA3.out i hlt
          have hfl := frI_le HFR.out (HIN.out i (Nat.le_of_lt hlt)) (by rw [List.length_reverse, HTL.out i (Nat.le_of_lt hlt)]; omega)
          have hf0 := HFR.out.1
          have hf1 := HFR.out.2.1
          have HFN := Lib.hid (HFS.out i hlt HFE.out HNI.out)
          have HNEW := Lib.hid (frI_step HFR.out (a := imAt ps i) hat1.1)
          have HRV := Lib.hid (HREV.out i hlt)
          obtain ⟨q, hq⟩ : ∃ q, imAt ps i = q := ⟨_, rfl⟩
          rw [hq] at hpa3 hat1 hat3 HNEW HRV
          obtain ⟨x, y⟩ := q
          dsimp only at hat1 hat3
          obtain ⟨a1, a2, a3⟩ := hat1
          obtain ⟨q0, q1, _, _⟩ := hpa3
          dsimp only at q0 q1
          obtain ⟨hf2, hf3⟩ := hfl
          have hm0 : 0 ≤ nn * y := Int.mul_nonneg hf0 (by omega)
          have hm1 : nn * y ≤ 18790481920000000 * 160 := Int.mul_le_mul hf2 hat3 (by omega) (by omega)
          have hd0 : 1 ≤ dd * y := by have := Int.mul_pos (show 0 < dd by omega) (show 0 < y by omega); omega
          have hd1 : dd * y ≤ 2684354560000000 * 160 := Int.mul_le_mul hf3 hat3 (by omega) (by omega)
          dsimp only at HNEW
          obtain ⟨M, hM⟩ : ∃ M, nn * y = M := ⟨_, rfl⟩
          obtain ⟨D, hD⟩ : ∃ D, dd * y = D := ⟨_, rfl⟩
          rw [hM] at hm0 hm1 HNEW
          rw [hD] at hd0 hd1 HNEW
          have HC := Lib.hid (fun W => omCommon_any D (M + dd) W (by omega) (by omega) (by omega))
          have hgp := gcd_pos (a := D) (b := M + dd) (by omega)
          have hgl := gcd_le (a := D) (b := M + dd) (B := 3100000000000000000) (by omega) (by omega)
          obtain ⟨g, hgg⟩ : ∃ g : Int, ((Int.gcd D (M + dd) : Nat) : Int) = g := ⟨_, rfl⟩
          rw [hgg] at HC HNEW hgp hgl
          have hg0 : (g == 0) = false := by simp; omega
          have hg1 : ¬ (g = 0) := by omega
          obtain ⟨s1, s2⟩ := tdiv_small (a := M + dd) (g := g) (B := 3100000000000000000) (by omega) (by omega)
          obtain ⟨s3, s4⟩ := tdiv_small (a := D) (g := g) (B := 3100000000000000000) (by omega) (by omega)
          obtain ⟨p0, p1⟩ := hbo
          clear hno hpa hbel hgg hq
          go_wp2_with fail
          refine (HC.out _).mono ?_
          rintro e w5 ⟨rfl, hb5⟩
          have HB5 := Lib.hid (HBR.out.trans (hb5.mono HBR.out.size))
          have HBO5 := Lib.hid (HBO.out.kept hb5)
          clear hb5 p0 p1
          go_wp2_with fail
          refine ⟨⟨i + 1, _, _, hlt, by go_num, rfl, rfl, ?_, HFN.out, HBO5.out, HB5.out⟩, by simp [RowKit.intOf]; omega⟩
          rw [HRV.out]
          first
            | exact HNEW.out
            | (have h := HNEW.out; rw [Int.tdiv_eq_ediv_of_nonneg (by omega), Int.tdiv_eq_ediv_of_nonneg (by omega)] at h; exact h)
    · obtain rfl : j = K := by omega
      have hlt2 : ¬ ((j : Int) < (j : Int)) := by omega
      have HE : Hid (oneB ps = decide (nn = dd)) := Lib.hid (by rw [frI_end HFR.out]; exact HEND.out HFE.out)
      clear hfr hfree hbo hbel
      go_wp2_with fail
      go_ret
      exact ⟨ret_bool (by rw [HE.out]; first | rfl | simp), HBR.out⟩
end Go.Proofs.Ytbhmplccjaijjaa
