/-
  'KeepsToResidue' of both.
-/
import Derived.Test.YtencblbkbalmcaaDoorKpS
import Derived.Test.YtencblbkbalmcaaDoorFwS
import Derived.Test.YtencblbkbalmcaaDoorNum
import Derived.Test.YtencblbkbalmcaaDoorFoR
namespace Go.Proofs.YtencblbkbalmcaaDoor
open Go.RowKit
set_option linter.unusedVariables false

/-- Are there a map, a power and a number greater than 0? -/
def askK (t p n k : Int) : Bool := (goodB t p && inB k 0 12) && (numB n && decide (1 ≤ n))
/-- What KeepsToResidue comes to. -/
def kpx (t p n k : Int) : Bool × Bool := if askK t p n k = true then kp t p n k.toNat else (false, false)
theorem kpx_no {t p n k : Int} (h : askK t p n k = false) : kpx t p n k = (false, false) := by rw [kpx, if_neg (by simp [h])]
theorem kpx_yes {t p n : Int} {K : Nat} (h : askK t p n K = true) : kpx t p n K = kp t p n K := by rw [kpx, if_pos h]; rfl
theorem kp_split {t p n : Int} {K : Nat} : kp t p n K = if allB (sx t p) n (stK t p n K + 1) = true then ((((f1 t p n (stK t p n K) : Nat) : Int) == ((fa t p n K : Nat) : Int)), true) else (false, false) := by
  rw [kp, kb_eq (stK_or t p n K)]

set_option maxRecDepth 100000 in
set_option maxHeartbeats 8000000 in
theorem iKeepsToResidue_yes (t p n : Int) (K : Nat) (w : World) (htab : Tab w) (hg : goodB t p = true) (hn : numB n = true) (h1 : 1 ≤ n) (hK : K ≤ 12) :
    Calls Tryd.prog 32 #[.agg #[.int .i64 t, .int .i64 p], .int .i64 n, .int .i64 (K : Int)] w fun e w' => e = .returned (.tuple #[.bool (kp t p n K).1, .bool (kp t p n K).2]) ∧ Below w.heap.size w w' := by
  have HM := Lib.hid (fun w => isMap_any t p w)
  have HN := Lib.hid (fun w => isNumber_any n w)
  have HP := Lib.hid (fun w => isPower_any (K : Int) w)
  rw [hg] at HM
  rw [hn] at HN
  rw [show inB (K : Int) 0 12 = true by simp [inB]; omega] at HP
  obtain ⟨pw1, pw0⟩ := pow2_le (k := K) (by omega)
  have r0 := Int.emod_nonneg n (show (2 : Int) ^ K ≠ 0 by omega)
  have r1 := Int.emod_lt_of_pos n pw0
  have HF := Lib.hid (fun w => fallOf_any t p (n % 2 ^ K) K w hg (by omega) r0 (by omega))
  rw [fa_mod hg n (Nat.le_refl K)] at HF
  have HR := Lib.hid (fun w h => residueOf_any n K (by omega) w h)
  have HT := Lib.hid htab
  have hSK := stK_le t p n K
  have HA : Hid (aft t p (sx t p) n (stK t p n K : Nat) = if allB (sx t p) n (stK t p n K + 1) = true then (itr (sx t p) (stK t p n K) n, true) else (0, false)) := Lib.hid (by
    have hask : askB t p n ((stK t p n K : Nat) : Int) = true := by simp [askB, hg, hn, inB]; omega
    unfold aft
    rw [hask]
    simp)
  have HSH := Lib.hid (fun w => iShortAfter t p n ((stK t p n K : Nat) : Int) w)
  have HFW := Lib.hid (fun w => iFallsWithin t p n ((stK t p n K : Nat) : Int) w)
  have HFI : Hid (allB (sx t p) n (stK t p n K + 1) = true → (fwi t p n ((stK t p n K : Nat) : Int)).1 = ((f1 t p n (stK t p n K) : Nat) : Int)) := Lib.hid (fun h => by
    by_cases h0 : 1 ≤ stK t p n K
    · rw [fwi, if_pos ⟨by omega, by omega⟩]
      rw [show (((stK t p n K : Nat) : Int)).toNat = stK t p n K by omega, f1_hit hg (by omega) h]
    · have : stK t p n K = 0 := by omega
      rw [this]
      rfl)
  have HKP := Lib.hid (kp_split (t := t) (p := p) (n := n) (K := K))
  have HS2 : Hid (stK t p n K = if fa t p n K = 0 then K else fa t p n K) := Lib.hid rfl
  have hfl := fa_le t p n K
  obtain ⟨f, hf⟩ : ∃ f, fa t p n K = f := ⟨_, rfl⟩
  rw [hf] at HF HKP HS2 hfl
  obtain ⟨S, hS⟩ : ∃ S, stK t p n K = S := ⟨_, rfl⟩
  rw [hS] at HA HSH HFW HFI HKP HS2 hSK
  rw [HA.out] at HSH
  obtain ⟨fw1, hfw1⟩ : ∃ x, (fwi t p n (S : Int)).1 = x := ⟨_, rfl⟩
  obtain ⟨fw2, hfw2⟩ : ∃ x, (fwi t p n (S : Int)).2 = x := ⟨_, rfl⟩
  rw [hfw1, hfw2] at HFW
  rw [hfw1] at HFI
  have hf12 : (f : Int) ≤ 12 := by omega
  have hS12 : (S : Int) ≤ 12 := by omega
  have hn0 : ¬ (n ≤ 0) := by omega
  generalize n % 2 ^ K = r at HF HR
  clear hg hn hK htab pw1 pw0 r0 r1 hSK hfl hf hS hfw1 hfw2 HA h1
  go_enter Tryd.func32, Tryd.ntmps32
  go_wp2_with fail
  refine (HM.out _).mono ?_
  rintro e w1 ⟨rfl, hb1⟩
  obtain ⟨c0, c1, hz, hb⟩ := map_block hb1
  have HB := Lib.hid hb
  have HT1 := Lib.hid (tab_below HT.out hb (Nat.le_refl _))
  clear hb1 hb
  go_wp2_with (first | (go_at_call 62; refine (HN.out _).mono ?_; rintro e w' ⟨rfl, rfl⟩) | (go_at_call 50; refine (HP.out _).mono ?_; rintro e w' ⟨rfl, rfl⟩))
  have HTD : Hid (Tab w1.drew) := Lib.hid (tab_drew HT1.out)
  go_region_with (first
    | (go_at_call 63; refine (HR.out _ (by first | exact HTD.out | exact HT1.out)).mono ?_; rintro e w' ⟨rfl, rfl⟩)
    | (go_at_call 51; refine (HF.out _).mono ?_; rintro e w3 ⟨rfl, hb3⟩))
  all_goals
    have hb4 : Below w1.heap.size w1 w3 := by
      first
        | exact (Below.refl _ w1).drew.trans (hb3.mono (by simp))
        | exact hb3
    have e0 := kept_cell hb4 hz c0
    have e1 := kept_cell hb4 hz c1
    have HB4 := Lib.hid (HB.out.trans (hb4.mono (Nat.le_of_lt hz)))
    have hz4 := Nat.lt_of_lt_of_le hz hb4.size
    clear hb3 hb4 c0 c1 hz HB
  all_goals
    by_cases hf0 : f = 0
    · have hgt : ((f : Int) == 0) = true := by simp [hf0]
      have HF0 := Lib.hid hf0
      have hgt2 : (f : Int) = 0 := by simp [hf0]
      have HSK : Hid (S = K) := Lib.hid (by rw [HS2.out, if_pos hf0])
      rw [HSK.out] at HSH HFW
      clear hf0
      cases hall : allB (sx t p) n (S + 1)
      · have HR2 : Hid (kp t p n K = (false, false)) := Lib.hid (by rw [HKP.out, if_neg (by simp [hall])])
        rw [← HSK.out, hall] at HSH
        simp only [Bool.false_eq_true, if_false] at HSH
        rw [HSK.out] at HSH
        clear hall HFI
        go_wp2_with fail
        refine (HSH.out _).mono ?_
        rintro e w5 ⟨rfl, hb5⟩
        have HB5 := Lib.hid (HB4.out.trans (hb5.mono HB4.out.size))
        clear hb5 e0 e1
        go_wp2_with fail
        go_ret2
        exact ⟨ret_bb (by rw [HR2.out]) (by rw [HR2.out]), HB5.out⟩
      · have hfi := HFI.out hall
        have HR2 : Hid (kp t p n K = ((fw1 == (f : Int)), true)) := Lib.hid (by rw [HKP.out, if_pos hall, hfi])
        rw [← HSK.out, hall] at HSH
        simp only [if_true] at HSH
        rw [HSK.out] at HSH
        obtain ⟨b, hb⟩ : ∃ b, (fw1 == (f : Int)) = b := ⟨_, rfl⟩
        have HBQ := Lib.hid hb
        rw [hb] at HR2
        clear hall HFI hfi
        go_wp2_with fail
        refine (HSH.out _).mono ?_
        rintro e w5 ⟨rfl, hb5⟩
        have d0 := kept_cell hb5 hz4 e0
        have d1 := kept_cell hb5 hz4 e1
        have HB5 := Lib.hid (HB4.out.trans (hb5.mono HB4.out.size))
        have hz5 := Nat.lt_of_lt_of_le hz4 hb5.size
        clear hb5 e0 e1
        go_wp2_with fail
        refine (HFW.out _).mono ?_
        rintro e w6 ⟨rfl, hb6⟩
        have HB6 := Lib.hid (HB5.out.trans (hb6.mono HB5.out.size))
        clear hb6 d0 d1
        cases b
        all_goals
          go_wp2_with fail
          go_ret2
          exact ⟨ret_bb (by rw [HR2.out]; first | done | rfl | (have h := HBQ.out; rw [HF0.out] at h; exact h)) (by rw [HR2.out]), HB6.out⟩
    · have hgt : ((f : Int) == 0) = false := by simp; omega
      have hgt2 : ¬ ((f : Int) = 0) := by omega
      have HSK : Hid (S = f) := Lib.hid (by rw [HS2.out, if_neg hf0])
      rw [HSK.out] at HSH HFW
      clear hf0
      cases hall : allB (sx t p) n (S + 1)
      · have HR2 : Hid (kp t p n K = (false, false)) := Lib.hid (by rw [HKP.out, if_neg (by simp [hall])])
        rw [← HSK.out, hall] at HSH
        simp only [Bool.false_eq_true, if_false] at HSH
        rw [HSK.out] at HSH
        clear hall HFI
        go_wp2_with fail
        refine (HSH.out _).mono ?_
        rintro e w5 ⟨rfl, hb5⟩
        have HB5 := Lib.hid (HB4.out.trans (hb5.mono HB4.out.size))
        clear hb5 e0 e1
        go_wp2_with fail
        go_ret2
        exact ⟨ret_bb (by rw [HR2.out]) (by rw [HR2.out]), HB5.out⟩
      · have hfi := HFI.out hall
        have HR2 : Hid (kp t p n K = ((fw1 == (f : Int)), true)) := Lib.hid (by rw [HKP.out, if_pos hall, hfi])
        rw [← HSK.out, hall] at HSH
        simp only [if_true] at HSH
        rw [HSK.out] at HSH
        obtain ⟨b, hb⟩ : ∃ b, (fw1 == (f : Int)) = b := ⟨_, rfl⟩
        have HBQ := Lib.hid hb
        rw [hb] at HR2
        clear hall HFI hfi
        go_wp2_with fail
        refine (HSH.out _).mono ?_
        rintro e w5 ⟨rfl, hb5⟩
        have d0 := kept_cell hb5 hz4 e0
        have d1 := kept_cell hb5 hz4 e1
        have HB5 := Lib.hid (HB4.out.trans (hb5.mono HB4.out.size))
        have hz5 := Nat.lt_of_lt_of_le hz4 hb5.size
        clear hb5 e0 e1
        go_wp2_with fail
        refine (HFW.out _).mono ?_
        rintro e w6 ⟨rfl, hb6⟩
        have HB6 := Lib.hid (HB5.out.trans (hb6.mono HB5.out.size))
        clear hb6 d0 d1
        cases b
        all_goals
          go_wp2_with fail
          go_ret2
          exact ⟨ret_bb (by rw [HR2.out]; first | done | rfl | (have h := HBQ.out; rw [HF0.out] at h; exact h)) (by rw [HR2.out]), HB6.out⟩
theorem ask_tail {t p n k : Int} (hg : goodB t p = true) (hn : numB n = true) (h1 : 1 ≤ n) (hk : inB k 0 12 = true) : askK t p n k = true := by simp [askK, hg, hn, h1, hk]

set_option maxHeartbeats 2000000 in
theorem iKeepsToResidue (t p n k : Int) (w : World) (htab : Tab w) :
    Calls Tryd.prog 32 #[.agg #[.int .i64 t, .int .i64 p], .int .i64 n, .int .i64 k] w fun e w' => e = .returned (.tuple #[.bool (kpx t p n k).1, .bool (kpx t p n k).2]) ∧ Below w.heap.size w w' := by
  have HM := Lib.hid (fun w => isMap_any t p w)
  have HN := Lib.hid (fun w => isNumber_any n w)
  have HP := Lib.hid (fun w => isPower_any k w)
  cases hg : goodB t p
  · have HY := Lib.hid (kpx_no (t := t) (p := p) (n := n) (k := k) (by simp [askK, hg]))
    rw [hg] at HM
    clear hg
    go_enter Tryd.func32, Tryd.ntmps32
    go_wp2_with fail
    refine (HM.out _).mono ?_
    rintro e w1 ⟨rfl, hb1⟩
    obtain ⟨c0, c1, hz, hb⟩ := map_block hb1
    clear hb1
    go_wp2_with fail
    go_ret2
    exact ⟨ret_bb (by rw [HY.out]) (by rw [HY.out]), hb⟩
  · rw [hg] at HM
    cases hn : numB n
    · have HY := Lib.hid (kpx_no (t := t) (p := p) (n := n) (k := k) (by simp [askK, hn]))
      rw [hn] at HN
      clear hg hn
      go_enter Tryd.func32, Tryd.ntmps32
      go_wp2_with fail
      refine (HM.out _).mono ?_
      rintro e w1 ⟨rfl, hb1⟩
      obtain ⟨c0, c1, hz, hb⟩ := map_block hb1
      clear hb1
      go_wp2_with (go_at_call 62; refine (HN.out _).mono ?_; rintro e w' ⟨rfl, rfl⟩)
      go_ret2
      exact ⟨ret_bb (by rw [HY.out]) (by rw [HY.out]), hb⟩
    · by_cases h1 : 1 ≤ n
      · cases hk : inB k 0 12
        · have HY := Lib.hid (kpx_no (t := t) (p := p) (n := n) (k := k) (by simp [askK, hk]))
          have hn0 : ¬ (n ≤ 0) := by omega
          rw [hn] at HN
          rw [hk] at HP
          clear hg hn hk h1
          go_enter Tryd.func32, Tryd.ntmps32
          go_wp2_with fail
          refine (HM.out _).mono ?_
          rintro e w1 ⟨rfl, hb1⟩
          obtain ⟨c0, c1, hz, hb⟩ := map_block hb1
          clear hb1
          go_wp2_with (first | (go_at_call 62; refine (HN.out _).mono ?_; rintro e w' ⟨rfl, rfl⟩) | (go_at_call 50; refine (HP.out _).mono ?_; rintro e w' ⟨rfl, rfl⟩))
          go_ret2
          exact ⟨ret_bb (by rw [HY.out]) (by rw [HY.out]), hb⟩
        · obtain ⟨K, rfl, hK⟩ := inB_nat hk
          rw [kpx_yes (ask_tail hg hn h1 hk)]
          exact iKeepsToResidue_yes t p n K w htab hg hn h1 (by omega)
      · have HY := Lib.hid (kpx_no (t := t) (p := p) (n := n) (k := k) (by simp [askK, h1]))
        have hn0 : n ≤ 0 := by omega
        rw [hn] at HN
        clear hg hn h1
        go_enter Tryd.func32, Tryd.ntmps32
        go_wp2_with fail
        refine (HM.out _).mono ?_
        rintro e w1 ⟨rfl, hb1⟩
        obtain ⟨c0, c1, hz, hb⟩ := map_block hb1
        clear hb1
        go_wp2_with (go_at_call 62; refine (HN.out _).mono ?_; rintro e w' ⟨rfl, rfl⟩)
        go_ret2
        exact ⟨ret_bb (by rw [HY.out]) (by rw [HY.out]), hb⟩

set_option maxHeartbeats 2000000 in
theorem sKeepsToResidue (t p n k : Int) (w : World) :
    Calls Tryd.prog 31 #[.agg #[.int .i64 t, .int .i64 p], .int .i64 n, .int .i64 k] w fun e w' => e = .returned (.tuple #[.bool (kpx t p n k).1, .bool (kpx t p n k).2]) ∧ Below w.heap.size w w' := by
  have HR := Lib.hid (fun w => rsPower_any t p k 12 w)
  have HN := Lib.hid (fun w => mpIs_any n w)
  cases ha : (goodB t p && inB k 0 12)
  · have HY := Lib.hid (kpx_no (t := t) (p := p) (n := n) (k := k) (by rw [askK, ha]; rfl))
    rw [ha] at HR
    clear ha
    go_enter Tryd.func31, Tryd.ntmps31
    go_wp2_with fail
    refine (HR.out _).mono ?_
    rintro e w1 ⟨rfl, hb1⟩
    obtain ⟨c0, c1, hz, hb⟩ := map_block hb1
    clear hb1
    go_wp2_with fail
    go_ret2
    exact ⟨ret_bb (by rw [HY.out]) (by rw [HY.out]), hb⟩
  · obtain ⟨hg, hk⟩ : goodB t p = true ∧ inB k 0 12 = true := by simpa using ha
    rw [ha] at HR
    cases hn : numB n
    · have HY := Lib.hid (kpx_no (t := t) (p := p) (n := n) (k := k) (by simp [askK, hn]))
      rw [hn] at HN
      clear ha hg hk hn
      go_enter Tryd.func31, Tryd.ntmps31
      go_wp2_with fail
      refine (HR.out _).mono ?_
      rintro e w1 ⟨rfl, hb1⟩
      obtain ⟨c0, c1, hz, hb⟩ := map_block hb1
      clear hb1
      go_wp2_with (go_at_call 60; refine (HN.out _).mono ?_; rintro e w' ⟨rfl, rfl⟩)
      go_ret2
      exact ⟨ret_bb (by rw [HY.out]) (by rw [HY.out]), hb⟩
    · rw [hn] at HN
      by_cases h1 : 1 ≤ n
      · obtain ⟨K, rfl, hK⟩ := inB_nat hk
        have HY := Lib.hid (kpx_yes (ask_tail hg hn h1 hk))
        have HK := Lib.hid (fun w => rsKeeps_any t p n K w hg hn (by omega))
        have hn1 : ¬ (n < 1) := by omega
        generalize kp t p n K = r at HY HK
        obtain ⟨r1, r2⟩ := r
        clear ha hg hk hn h1
        go_enter Tryd.func31, Tryd.ntmps31
        go_wp2_with fail
        refine (HR.out _).mono ?_
        rintro e w1 ⟨rfl, hb1⟩
        obtain ⟨c0, c1, hz, hb⟩ := map_block hb1
        have HB := Lib.hid hb
        clear hb1 hb
        go_wp2_with (go_at_call 60; refine (HN.out _).mono ?_; rintro e w' ⟨rfl, rfl⟩)
        refine (HK.out _).mono ?_
        rintro e w2 ⟨rfl, hb2⟩
        have HB2 := Lib.hid (HB.out.trans (hb2.mono HB.out.size))
        clear hb2
        go_wp2_with fail
        go_ret2
        exact ⟨ret_bb (by rw [HY.out]) (by rw [HY.out]), HB2.out⟩
      · have HY := Lib.hid (kpx_no (t := t) (p := p) (n := n) (k := k) (by simp [askK, h1]))
        have hn1 : n < 1 := by omega
        clear ha hg hk hn h1
        go_enter Tryd.func31, Tryd.ntmps31
        go_wp2_with fail
        refine (HR.out _).mono ?_
        rintro e w1 ⟨rfl, hb1⟩
        obtain ⟨c0, c1, hz, hb⟩ := map_block hb1
        clear hb1
        go_wp2_with (go_at_call 60; refine (HN.out _).mono ?_; rintro e w' ⟨rfl, rfl⟩)
        go_ret2
        exact ⟨ret_bb (by rw [HY.out]) (by rw [HY.out]), hb⟩
end Go.Proofs.YtencblbkbalmcaaDoor
