/-
  'MeanSteps' of both.
-/
import Derived.Test.YtponmblponfdaaaRecN
import Derived.Test.YtponmblponfdaaaGcdU
namespace Go.Proofs.Ytponmblponfdaaa
open Go.RowKit
set_option linter.unusedVariables false

/-- The sum of those that there are. -/
def sumK (f : Nat → Int) : Nat → Int
  | 0 => 0
  | k + 1 => if f k = -1 then sumK f k else sumK f k + f k
/-- How many there are. -/
def cntK (f : Nat → Int) : Nat → Nat
  | 0 => 0
  | k + 1 => if f k = -1 then cntK f k else cntK f k + 1
theorem cntK_le (f : Nat → Int) (k : Nat) : cntK f k ≤ k := by
  induction k with
  | zero => exact Nat.le_refl _
  | succ k ih => rw [cntK]; split <;> omega
theorem sumK_bound {f : Nat → Int} {k : Nat} (h : ∀ j, j < k → -1 ≤ f j ∧ f j ≤ 1000) : 0 ≤ sumK f k ∧ sumK f k ≤ 1000 * (k : Int) := by
  induction k with
  | zero => simp [sumK]
  | succ k ih =>
    have := ih (fun j hj => h j (by omega))
    have := h k (Nat.lt_succ_self k)
    rw [sumK]
    split <;> omega
theorem sumK_none {f : Nat → Int} {k : Nat} (h : f k = -1) : sumK f (k + 1) = sumK f k ∧ cntK f (k + 1) = cntK f k := by rw [sumK, cntK, if_pos h, if_pos h]; exact ⟨rfl, rfl⟩
theorem sumK_has {f : Nat → Int} {k : Nat} (h : f k ≠ -1) : sumK f (k + 1) = sumK f k + f k ∧ cntK f (k + 1) = cntK f k + 1 := by rw [sumK, cntK, if_neg h, if_neg h]; exact ⟨rfl, rfl⟩
/-- What MeanSteps comes to. -/
def meanL (xs : List Int) : Int × Int × Bool := if cntK (atL xs) xs.length = 0 then (0, 0, false) else ((lowT (sumK (atL xs) xs.length) (cntK (atL xs) xs.length)).1, (lowT (sumK (atL xs) xs.length) (cntK (atL xs) xs.length)).2, true)
def Ret3 (x : Int × Int × Bool) (w : World) (e : Ending) (w' : World) : Prop := e = .returned (.tuple #[.int .i64 x.1, .int .i64 x.2.1, .bool x.2.2]) ∧ Below w.heap.size w w'
theorem ret_3 {x : Int × Int × Bool} {a b : Int} {c : Bool} (h : x = (a, b, c)) : Ending.returned (.tuple #[.int .i64 a, .int .i64 b, .bool c]) = .returned (.tuple #[.int .i64 x.1, .int .i64 x.2.1, .bool x.2.2]) := by rw [h]
def Small (xs : List Int) : Prop := ∀ j, j < xs.length → -1 ≤ atL xs j ∧ atL xs j ≤ 1000
theorem small_need (t p k : Int) : Small (tabA needN t p k) := by
  intro j hj
  cases ha : askL t p k
  · rw [tabA_no ha] at hj; cases hj
  · obtain ⟨K, rfl, _, hK, hg⟩ := askL_yes ha
    rw [tabA_yes ha, tabL_length] at hj
    unfold atL
    rw [tabA_yes ha, tabL_at hj]
    exact needN_bound _ _ _

set_option maxRecDepth 100000 in
set_option maxHeartbeats 4000000 in
theorem iMeanSteps (t p k : Int) (w : World) :
    Calls Try.prog 14 #[.agg #[.int .i64 t, .int .i64 p], .int .i64 k] w (Ret3 (meanL (tabA needN t p k)) w) := by
  have HL := Lib.hid (fun w => iStepsList t p k w)
  have hsm := small_need t p k
  have hlen := tabA_len needN t p k
  have HB0 := Lib.hid ((Below.refl _ w).alloc (Nat.le_refl _) (.cells #[.int .i64 t, .int .i64 p] 25))
  obtain ⟨xs, hxs⟩ : ∃ xs, tabA needN t p k = xs := ⟨_, rfl⟩
  rw [hxs] at HL hsm hlen ⊢
  clear hxs
  go_enter Try.func14, Try.ntmps14
  go_wp2_with fail
  refine (HL.out _).mono ?_
  rintro e w1 ⟨v, rfl, hrow, hb1⟩
  have HB := Lib.hid (HB0.out.trans (hb1.mono (by simp)))
  obtain ⟨a, cap, rfl, hx⟩ := hrow.isIn.at'
  have HM : Hid (meanL xs = if cntK (atL xs) xs.length = 0 then (0, 0, false) else ((lowT (sumK (atL xs) xs.length) (cntK (atL xs) xs.length)).1, (lowT (sumK (atL xs) xs.length) (cntK (atL xs) xs.length)).2, true)) := Lib.hid rfl
  obtain ⟨r, hr⟩ : ∃ r, meanL xs = r := ⟨_, rfl⟩
  have HR0 := Lib.hid hr
  obtain ⟨f, hf⟩ : ∃ f, atL xs = f := ⟨_, rfl⟩
  obtain ⟨K, hK⟩ : ∃ K, xs.length = K := ⟨_, rfl⟩
  unfold Small at hsm
  rw [hr] at HM
  rw [hf, hK] at hsm hx HM
  rw [hK] at hlen ⊢
  have HSM := Lib.hid hsm
  have HX := Lib.hid hx
  have hK2 : (K : Int) ≤ 300 := by omega
  clear hb1 hrow hr hf hK hsm hx hlen
  go_wp2_with fail
  go_loop [9, 10, 23] (fun s c i => ∃ j : Nat, j ≤ K ∧ i = .int .i64 j ∧ s = .int .i64 (sumK f j) ∧ c = .int .i64 (cntK f j)) (fun _ _ i => K - (RowKit.intOf i).toNat)
  case atStart => exact ⟨0, Nat.zero_le _, rfl, rfl, rfl⟩
  case round =>
    obtain ⟨j, hj, rfl, rfl, rfl⟩ := hrel
    have hcl := cntK_le f j
    have hsb := sumK_bound (f := f) (k := j) (fun i hi => HSM.out i (by omega))
    have HNONE := Lib.hid (fun h => sumK_none (f := f) (k := j) h)
    have HHAS := Lib.hid (fun h => sumK_has (f := f) (k := j) h)
    by_cases hlt : j < K
    · obtain ⟨g, rfl, hg, q⟩ := HX.out j hlt
      have hxb := HSM.out j hlt
      have hlt2 : (j : Int) < (K : Int) := by omega
      obtain ⟨x, hx⟩ : ∃ x, f j = x := ⟨_, rfl⟩
      obtain ⟨s, hs⟩ : ∃ s, sumK f j = s := ⟨_, rfl⟩
      obtain ⟨c, hc⟩ : ∃ c, cntK f j = c := ⟨_, rfl⟩
      rw [hx] at q hxb HNONE HHAS
      rw [hs] at hsb HNONE HHAS ⊢
      rw [hc] at hcl HNONE HHAS ⊢
      have hcl2 : (c : Int) ≤ 300 := by omega
      have hs1 : 0 ≤ s := hsb.1
      have hs2 : s ≤ 300000 := by omega
      clear hx hs hc hsb
      by_cases hx1 : x = -1
      · have HN := Lib.hid (HNONE.out hx1)
        have hx2 : (x != -1) = false := by simpa using hx1
        clear hx1 HNONE HHAS
        go_wp2_with fail
        exact ⟨⟨j + 1, hlt, by go_num, by rw [HN.out.1], by rw [HN.out.2]⟩, by simp [RowKit.intOf]; omega⟩
      · have HN := Lib.hid (HHAS.out hx1)
        have hx2 : (x != -1) = true := by simpa using hx1
        clear hx1 HNONE HHAS
        go_wp2_with fail
        exact ⟨⟨j + 1, hlt, by go_num, by rw [HN.out.1], by rw [HN.out.2]; go_num⟩, by simp [RowKit.intOf]; omega⟩
    · obtain rfl : j = K := by omega
      have hlt2 : ¬ ((j : Int) < (j : Int)) := by omega
      obtain ⟨s, hs⟩ : ∃ s, sumK f j = s := ⟨_, rfl⟩
      obtain ⟨c, hc⟩ : ∃ c, cntK f j = c := ⟨_, rfl⟩
      rw [hs] at hsb HM ⊢
      rw [hc] at hcl HM ⊢
      have hcl2 : (c : Int) ≤ 300 := by omega
      have hs1 : 0 ≤ s := hsb.1
      have hs2 : s ≤ 300000 := by omega
      clear hs hc hsb HNONE HHAS
      by_cases hc0 : c = 0
      · have HR : Hid (r = (0, 0, false)) := Lib.hid (by rw [HM.out, if_pos hc0])
        subst hc0
        go_wp2_with fail
        go_ret3
        exact ⟨ret_3 (HR0.out.trans HR.out), HB.out⟩
      · have HR : Hid (r = ((lowT s c).1, (lowT s c).2, true)) := Lib.hid (by rw [HM.out, if_neg hc0])
        have HLT := Lib.hid (fun w => lowestTerms_any s c w (by omega) (by omega) (by omega) (by omega) (by omega))
        have hc1 : ((c : Int) == 0) = false := by simp; omega
        have hc2 : ¬ ((c : Int) = 0) := by omega
        clear HM
        go_wp2_with fail
        refine (HLT.out _).mono ?_
        rintro e w2 ⟨rfl, hb2⟩
        have HB2 := Lib.hid (HB.out.trans (hb2.mono HB.out.size))
        clear hb2
        go_wp2_with fail
        go_ret3
        exact ⟨ret_3 (HR0.out.trans HR.out), HB2.out⟩

set_option maxRecDepth 100000 in
set_option maxHeartbeats 4000000 in
theorem sMeanSteps (t p k : Int) (w : World) :
    Calls Try.prog 15 #[.agg #[.int .i64 t, .int .i64 p], .int .i64 k] w (Ret3 (meanL (tabA needN t p k)) w) := by
  have HMM := Lib.hid (fun w => reLimit_any t p k w)
  have hsm := small_need t p k
  cases hask : askL t p k
  · have HY : Hid (tabA needN t p k = []) := Lib.hid (tabA_no hask)
    rw [hask] at HMM
    clear hask hsm
    go_enter Try.func15, Try.ntmps15
    go_wp2_with fail
    refine (HMM.out _).mono ?_
    rintro e w1 ⟨rfl, hb1⟩
    obtain ⟨c0, c1, hz, hb⟩ := map_block hb1
    clear hb1
    go_wp2_with fail
    go_ret3
    exact ⟨by rw [HY.out]; rfl, hb⟩
  · obtain ⟨K0, rfl, hK1, hK, hg⟩ := askL_yes hask
    have hY := tabA_yes (g := needN) hask
    have HL := Lib.hid (fun w => reList_any t p K0 w hg hK)
    rw [← hY] at HL
    have hlen : (tabA needN t p K0).length ≤ 300 := tabA_len _ _ _ _
    obtain ⟨xs, hxs⟩ : ∃ xs, tabA needN t p K0 = xs := ⟨_, rfl⟩
    rw [hxs] at HL hsm hlen ⊢
    rw [hask] at HMM
    clear hask hg hxs hY
    go_enter Try.func15, Try.ntmps15
    go_wp2_with fail
    refine (HMM.out _).mono ?_
    rintro e w1 ⟨rfl, hb1⟩
    obtain ⟨c0, c1, hz, hb⟩ := map_block hb1
    clear hb1
    go_wp2_with fail
    refine (HL.out _).mono ?_
    rintro e w2 ⟨v, rfl, hrow, hb2⟩
    have HB := Lib.hid (hb.trans (hb2.mono (Nat.le_of_lt hz)))
    obtain ⟨a, cap, rfl, hx⟩ := hrow.isIn.at'
    have HM : Hid (meanL xs = if cntK (atL xs) xs.length = 0 then (0, 0, false) else ((lowT (sumK (atL xs) xs.length) (cntK (atL xs) xs.length)).1, (lowT (sumK (atL xs) xs.length) (cntK (atL xs) xs.length)).2, true)) := Lib.hid rfl
    obtain ⟨r, hr⟩ : ∃ r, meanL xs = r := ⟨_, rfl⟩
    have HR0 := Lib.hid hr
    obtain ⟨f, hf⟩ : ∃ f, atL xs = f := ⟨_, rfl⟩
    obtain ⟨K, hKK⟩ : ∃ K, xs.length = K := ⟨_, rfl⟩
    unfold Small at hsm
    rw [hr] at HM
    rw [hf, hKK] at hsm hx HM
    rw [hKK] at hlen ⊢
    have HSM := Lib.hid hsm
    have HX := Lib.hid hx
    have hK2 : (K : Int) ≤ 300 := by omega
    clear hb2 hrow hr hf hKK hsm hx hlen hb c0 c1 hz
    go_wp2_with fail
    go_loop [7, 8, 21] (fun s c i => ∃ j : Nat, j ≤ K ∧ i = .int .i64 j ∧ s = .int .i64 (sumK f j) ∧ c = .int .i64 (cntK f j)) (fun _ _ i => K - (RowKit.intOf i).toNat)
    case atStart => exact ⟨0, Nat.zero_le _, rfl, rfl, rfl⟩
    case round =>
      obtain ⟨j, hj, rfl, rfl, rfl⟩ := hrel
      have hcl := cntK_le f j
      have hsb := sumK_bound (f := f) (k := j) (fun i hi => HSM.out i (by omega))
      have HNONE := Lib.hid (fun h => sumK_none (f := f) (k := j) h)
      have HHAS := Lib.hid (fun h => sumK_has (f := f) (k := j) h)
      by_cases hlt : j < K
      · obtain ⟨g, rfl, hg, q⟩ := HX.out j hlt
        have hxb := HSM.out j hlt
        have hlt2 : (j : Int) < (K : Int) := by omega
        obtain ⟨x, hx⟩ : ∃ x, f j = x := ⟨_, rfl⟩
        obtain ⟨s, hs⟩ : ∃ s, sumK f j = s := ⟨_, rfl⟩
        obtain ⟨c, hc⟩ : ∃ c, cntK f j = c := ⟨_, rfl⟩
        rw [hx] at q hxb HNONE HHAS
        rw [hs] at hsb HNONE HHAS ⊢
        rw [hc] at hcl HNONE HHAS ⊢
        have hcl2 : (c : Int) ≤ 300 := by omega
        have hs1 : 0 ≤ s := hsb.1
        have hs2 : s ≤ 300000 := by omega
        clear hx hs hc hsb
        by_cases hx1 : x = -1
        · have HN := Lib.hid (HNONE.out hx1)
          have hx2 : ¬ (0 ≤ x) := by omega
          clear hx1 HNONE HHAS
          go_wp2_with fail
          exact ⟨⟨j + 1, hlt, by go_num, by rw [HN.out.1], by rw [HN.out.2]⟩, by simp [RowKit.intOf]; omega⟩
        · have HN := Lib.hid (HHAS.out hx1)
          have hx2 : 0 ≤ x := by omega
          clear hx1 HNONE HHAS
          go_wp2_with fail
          exact ⟨⟨j + 1, hlt, by go_num, by rw [HN.out.1], by rw [HN.out.2]; go_num⟩, by simp [RowKit.intOf]; omega⟩
      · obtain rfl : j = K := by omega
        have hlt2 : ¬ ((j : Int) < (j : Int)) := by omega
        obtain ⟨s, hs⟩ : ∃ s, sumK f j = s := ⟨_, rfl⟩
        obtain ⟨c, hc⟩ : ∃ c, cntK f j = c := ⟨_, rfl⟩
        rw [hs] at hsb HM ⊢
        rw [hc] at hcl HM ⊢
        have hcl2 : (c : Int) ≤ 300 := by omega
        have hs1 : 0 ≤ s := hsb.1
        have hs2 : s ≤ 300000 := by omega
        clear hs hc hsb HNONE HHAS
        by_cases hc0 : c = 0
        · have HR : Hid (r = (0, 0, false)) := Lib.hid (by rw [HM.out, if_pos hc0])
          subst hc0
          go_wp2_with fail
          go_ret3
          exact ⟨ret_3 (HR0.out.trans HR.out), HB.out⟩
        · have HR : Hid (r = ((lowT s c).1, (lowT s c).2, true)) := Lib.hid (by rw [HM.out, if_neg hc0])
          have HLT : Hid (lowT s c = (s.tdiv (Int.gcd s c), (c : Int).tdiv (Int.gcd s c))) := Lib.hid (by rw [lowT, if_neg (by omega)])
          have hc1 : ((c : Int) == 0) = false := by simp; omega
          have hc2 : ¬ ((c : Int) = 0) := by omega
          have hgp : (1 : Int) ≤ (Int.gcd s c : Nat) := gcd_pos hc2
          have hgl := gcd_le (a := s) (b := (c : Int)) (B := 300) (by omega) (by omega)
          clear HM
          go_wp2_with fail
          go_loopw [11, 12] (fun x y wr => ∃ u v : Int, x = .int .i64 u ∧ y = .int .i64 v ∧ Int.gcd u v = Int.gcd s c ∧ 0 ≤ u ∧ u ≤ 300000 ∧ 0 ≤ v ∧ v ≤ 300000 ∧ Below w.heap.size w wr) (fun _ y _ => (RowKit.intOf y).natAbs)
          case atStart => exact ⟨s, c, rfl, rfl, rfl, hs1, hs2, by omega, by omega, HB.out⟩
          case round =>
            obtain ⟨u, v, rfl, rfl, hgg, u0, u1, v0, v1, hbel⟩ := hrel
            have HBB := Lib.hid hbel
            have HGC := Lib.hid hgg
            clear hgg hbel
            by_cases hv : v = 0
            · subst hv
              have hgz := gcd_zero u
              rw [if_pos u0, HGC.out] at hgz
              have HGZ := Lib.hid hgz
              have hu0 : (u == 0) = false := by simp; omega
              have hu1 : ¬ u = 0 := by omega
              obtain ⟨q1, q2⟩ := tdiv_small (a := s) (g := u) (B := 300000) (by omega) hs2
              obtain ⟨q3, q4⟩ := tdiv_small (a := (c : Int)) (g := u) (B := 300000) (by omega) (by omega)
              have ed : (c : Int).tdiv u = (c : Int) / u := Int.tdiv_eq_ediv_of_nonneg (by omega)
              rw [ed] at q3 q4
              have HED := Lib.hid ed
              clear ed
              clear hgz
              go_wp2_with fail
              go_region
              go_wp2_with fail
              go_ret3
              exact ⟨ret_3 (HR0.out.trans (HR.out.trans (by rw [HLT.out, HGZ.out, HED.out]))), HBB.out.drew⟩
            · obtain ⟨m0, m1, m2⟩ := tmod_small (a := u) (B := 300000) hv (by omega) v1
              have hm0 : 0 ≤ u.tmod v := Int.tmod_nonneg _ u0
              have em : u.tmod v = u % v := Int.tmod_eq_emod_of_nonneg u0
              have ht := (gcd_tmod u v).trans HGC.out
              rw [em] at ht m1 m2 hm0
              have HT := Lib.hid ht
              have HMM2 := Lib.hid m2
              have HM0 := Lib.hid (And.intro hm0 m1)
              have hv1 : 0 < v := by omega
              have hv2 : (v == 0) = false := by simpa using hv
              clear m2 m0 m1 hm0 em ht
              go_wp2_with fail
              go_region
              go_wp2_with fail
              exact ⟨⟨v, u % v, rfl, rfl, HT.out, v0, v1, HM0.out.1, HM0.out.2, HBB.out.drew⟩, by have := HMM2.out; simp only [RowKit.intOf]; exact this⟩
end Go.Proofs.Ytponmblponfdaaa
