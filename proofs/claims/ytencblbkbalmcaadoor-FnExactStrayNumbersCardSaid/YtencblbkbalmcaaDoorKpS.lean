/-
  'rsKeeps', 'KeepsToResidue' of the model.
-/
import Derived.Test.YtencblbkbalmcaaDoorKpM
import Derived.Test.YtencblbkbalmcaaDoorRsf
import Derived.Test.YtencblbkbalmcaaDoorRsp
import Derived.Test.YtencblbkbalmcaaDoorLeafB
namespace Go.Proofs.YtencblbkbalmcaaDoor
open Go.RowKit
set_option linter.unusedVariables false

theorem ret_bb {x y a b : Bool} (h : x = y) (h' : a = b) : Ending.returned (.tuple #[.bool x, .bool a]) = .returned (.tuple #[.bool y, .bool b]) := by rw [h, h']

set_option maxRecDepth 100000 in
set_option maxHeartbeats 8000000 in
theorem rsKeeps_any (t p n : Int) (K : Nat) (w : World) (hg : goodB t p = true) (hn : numB n = true) (hK : K ≤ 12) :
    Calls Tryd.prog 61 #[.agg #[.int .i64 t, .int .i64 p], .int .i64 n, .int .i64 (K : Int)] w fun e w' => e = .returned (.tuple #[.bool (kp t p n K).1, .bool (kp t p n K).2]) ∧ Below w.heap.size w w' := by
  have HG := Lib.hid hg
  have HN := Lib.hid hn
  obtain ⟨m1, m2⟩ := numB_iff.1 hn
  have HW := Lib.hid (fun w => woOf_any t p n K w hg (by omega) (by omega) (by omega))
  have HF := Lib.hid (fun w => rsFall_any t p n K w hg (by omega))
  have HSO := Lib.hid (stK_or t p n K)
  have HSL := Lib.hid (stK_le t p n K)
  have HSD : Hid (∀ f, fa t p n K = f → stK t p n K = if f = 0 then K else f) := Lib.hid (fun f h => by rw [stK, h])
  have HKP : Hid (kp t p n K = if allB (sx t p) n (stK t p n K + 1) = true then (kb t p n (fa t p n K) (stK t p n K), true) else (false, false)) := Lib.hid rfl
  have hfl := fa_le t p n K
  generalize wby (wrd t p n K) = s at HW HF
  obtain ⟨f, hf⟩ : ∃ f, fa t p n K = f := ⟨_, rfl⟩
  have HS2 := Lib.hid (HSD.out f hf)
  rw [hf] at HF HSO HKP hfl
  obtain ⟨S, hS⟩ : ∃ S, stK t p n K = S := ⟨_, rfl⟩
  rw [hS] at HSO HSL HKP HS2
  have hf12 : (f : Int) ≤ 12 := by omega
  have hK12 : (K : Int) ≤ 12 := by omega
  clear hg hn HSD hf hS hfl hK
  go_enter Tryd.func61, Tryd.ntmps61
  go_wp2_with fail
  have c0 : (w.alloc (.cells #[.int .i64 t, .int .i64 p] 26)).cell? ⟨w.heap.size, 0, none⟩ = some (.int .i64 t) := by go_simp
  have c1 : (w.alloc (.cells #[.int .i64 t, .int .i64 p] 26)).cell? ⟨w.heap.size, 1, none⟩ = some (.int .i64 p) := by go_simp
  have hz : w.heap.size < (w.alloc (.cells #[.int .i64 t, .int .i64 p] 26)).heap.size := by simp
  have HB := Lib.hid ((Below.refl _ w).alloc (Nat.le_refl _) (.cells #[.int .i64 t, .int .i64 p] 26))
  generalize w.alloc (.cells #[.int .i64 t, .int .i64 p] 26) = w1 at c0 c1 hz HB ⊢
  go_region_with (first
    | (go_at_call 49; refine (HW.out _).mono ?_; rintro e w2 ⟨rfl, hb2⟩; have d0 := kept_cell hb2 hz c0; have d1 := kept_cell hb2 hz c1)
    | (go_at_call 48; refine (HF.out _).mono ?_; rintro e w3 ⟨rfl, hb3⟩))
  all_goals
    have hb4 : Below w1.heap.size w1 w3 := by
      first
        | exact ((Below.refl _ w1).drew.trans (hb2.mono (by simp))).trans (hb3.mono (by have := hb2.size; simpa using this))
        | exact hb2.trans (hb3.mono hb2.size)
    have e0 := kept_cell hb4 hz c0
    have e1 := kept_cell hb4 hz c1
    have HB4 := Lib.hid (HB.out.trans (hb4.mono (Nat.le_of_lt hz)))
    have hz4 := Nat.lt_of_lt_of_le hz hb4.size
    clear hb2 hb3 hb4 c0 c1 d0 d1 hz HB
    obtain ⟨W, rfl⟩ : ∃ W : World, W = w3 := ⟨_, rfl⟩
  all_goals
    by_cases hf0 : f = 0
    · have hgt : ¬ (0 < (f : Int)) := by omega
      have hgtN : decide (0 < f) = false := by simp; omega
      have HSK : Hid (S = K) := Lib.hid (by rw [HS2.out, if_pos hf0])
      clear hf0
      go_wp2_with fail
      go_loopw [10, 11, 12] (fun x b y wr => ∃ j : Nat, j ≤ S ∧ y = .int .i64 ((j : Int) + 1) ∧ x = .int .i64 (itr (sx t p) j n) ∧ b = .bool (kb t p n f j) ∧ allB (sx t p) n (j + 1) = true ∧ wr.cell? ⟨w.heap.size, 0, none⟩ = some (.int .i64 t) ∧ wr.cell? ⟨w.heap.size, 1, none⟩ = some (.int .i64 p) ∧ w.heap.size < wr.heap.size ∧ Below w.heap.size w wr) (fun _ _ y _ => S + 1 - (intOf y).toNat)
      case atStart => exact ⟨0, Nat.zero_le _, by simp, rfl, rfl, by simp [allB, itr, HN.out], e0, e1, hz4, HB4.out⟩
      case round =>
        clear e0 e1 hz4 HB4
        obtain ⟨j, hj, rfl, rfl, rfl, hall, c0, c1, hz, hb⟩ := hrel
        have HB := Lib.hid hb
        have HALL := Lib.hid hall
        have hnum := allB_at (Nat.lt_succ_self j) hall
        have HIS := Lib.hid (itr_succ (sx t p) j n)
        have HSKO := HSK.out
        have HSLO := HSL.out
        have hj12 : (j : Int) ≤ 12 := by omega
        clear hb hall
        by_cases hlt : j < S
        · have hle : (j : Int) + 1 ≤ (K : Int) := by omega
          have HKB : Hid (kb t p n f (j + 1) = (kb t p n f j && (decide (itr (sx t p) (j + 1) n < n) == decide (j + 1 = f)))) := Lib.hid rfl
          rw [HIS.out] at HKB
          obtain ⟨v, hv⟩ : ∃ v, v = itr (sx t p) j n := ⟨_, rfl⟩
          rw [← hv] at hnum HIS HKB ⊢
          obtain ⟨n1, n2⟩ := numB_iff.1 hnum
          have HS := Lib.hid (fun w => mpShort_any t p v w HG.out hnum)
          have hbd := sx_bound HG.out hnum
          have HSUCC : Hid (allB (sx t p) n (j + 1 + 1) = numB (sx t p v)) := Lib.hid (by rw [allB_succ, HALL.out, HIS.out]; rfl)
          have HIN := Lib.hid (fun w => mpIs_any (sx t p v) w)
          have HKJ := Lib.hid hlt
          have HFAIL : Hid (numB (sx t p v) = false → kp t p n K = (false, false)) := Lib.hid (fun h => by
            rw [HKP.out, if_neg]
            intro h2
            have h3 := allB_le (j := j + 1 + 1) (by omega) h2
            rw [HSUCC.out, h] at h3
            cases h3)
          have HEQ : Hid (decide (j + 1 = f) = (((j : Int) + 1) == (f : Int))) := Lib.hid (by rw [Bool.eq_iff_iff]; simp; omega)
          rw [HEQ.out] at HKB
          generalize sx t p v = u at HS HIS HSUCC HIN HFAIL HKB hbd
          obtain ⟨u1, u2⟩ := hbd
          clear hv hnum hlt hj HSKO HSLO HEQ
          cases hu : numB u
          · rw [hu] at HIN
            have HR := Lib.hid (HFAIL.out hu)
            clear hu HFAIL HKB
            go_wp2_with (first | (go_at_call 75; refine (HS.out _).mono ?_; rintro e w2 ⟨rfl, hb2⟩) | (go_at_call 60; refine (HIN.out _).mono ?_; rintro e w' ⟨rfl, rfl⟩))
            go_ret2
            exact ⟨ret_bb (by rw [HR.out]) (by rw [HR.out]), HB.out.trans (hb2.mono HB.out.size)⟩
          · rw [hu] at HIN
            have HU := Lib.hid hu
            clear hu HFAIL
            cases hkb : kb t p n f j
            · rw [hkb] at HKB
              go_wp2_with (first | (go_at_call 75; refine (HS.out _).mono ?_; rintro e w2 ⟨rfl, hb2⟩) | (go_at_call 60; refine (HIN.out _).mono ?_; rintro e w' ⟨rfl, rfl⟩))
              exact ⟨⟨j + 1, HKJ.out, by go_num, by rw [HIS.out], by rw [HKB.out]; rfl, by rw [HSUCC.out, HU.out], kept_cell hb2 hz c0, kept_cell hb2 hz c1, Nat.lt_of_lt_of_le hz hb2.size, HB.out.trans (hb2.mono HB.out.size)⟩, by simp [intOf]; have := HKJ.out; omega⟩
            · rw [hkb, Bool.true_and] at HKB
              obtain ⟨b1, hb1⟩ : ∃ b1, decide (u < n) = b1 := ⟨_, rfl⟩
              obtain ⟨b2, hbq⟩ : ∃ b2, (((j : Int) + 1) == (f : Int)) = b2 := ⟨_, rfl⟩
              rw [hb1, hbq] at HKB
              cases b1 <;> cases b2
              all_goals
                go_wp2_with (first | (go_at_call 75; refine (HS.out _).mono ?_; rintro e w2 ⟨rfl, hb2⟩) | (go_at_call 60; refine (HIN.out _).mono ?_; rintro e w' ⟨rfl, rfl⟩))
                exact ⟨⟨j + 1, HKJ.out, by go_num, by rw [HIS.out], by rw [HKB.out]; first | rfl | simp, by rw [HSUCC.out, HU.out], kept_cell hb2 hz c0, kept_cell hb2 hz c1, Nat.lt_of_lt_of_le hz hb2.size, HB.out.trans (hb2.mono HB.out.size)⟩, by simp [intOf]; have := HKJ.out; omega⟩
        · have HJ : Hid (j = S) := Lib.hid (by omega)
          have hle : ¬ ((j : Int) + 1 ≤ (K : Int)) := by omega
          have HR : Hid (kp t p n K = (kb t p n f j, true)) := Lib.hid (by rw [HKP.out, ← HJ.out, if_pos HALL.out])
          clear hj hlt hnum HSKO HSLO
          go_wp2_with fail
          go_ret2
          exact ⟨ret_bb (by rw [HR.out]) (by rw [HR.out]), HB.out⟩
    · have hgt : 0 < (f : Int) := by omega
      have hgtN : decide (0 < f) = true := by simp; omega
      have HSK : Hid (S = f) := Lib.hid (by rw [HS2.out, if_neg hf0])
      clear hf0
      go_wp2_with fail
      go_loopw [10, 11, 12] (fun x b y wr => ∃ j : Nat, j ≤ S ∧ y = .int .i64 ((j : Int) + 1) ∧ x = .int .i64 (itr (sx t p) j n) ∧ b = .bool (kb t p n f j) ∧ allB (sx t p) n (j + 1) = true ∧ wr.cell? ⟨w.heap.size, 0, none⟩ = some (.int .i64 t) ∧ wr.cell? ⟨w.heap.size, 1, none⟩ = some (.int .i64 p) ∧ w.heap.size < wr.heap.size ∧ Below w.heap.size w wr) (fun _ _ y _ => S + 1 - (intOf y).toNat)
      case atStart => exact ⟨0, Nat.zero_le _, by simp, rfl, rfl, by simp [allB, itr, HN.out], e0, e1, hz4, HB4.out⟩
      case round =>
        clear e0 e1 hz4 HB4
        obtain ⟨j, hj, rfl, rfl, rfl, hall, c0, c1, hz, hb⟩ := hrel
        have HB := Lib.hid hb
        have HALL := Lib.hid hall
        have hnum := allB_at (Nat.lt_succ_self j) hall
        have HIS := Lib.hid (itr_succ (sx t p) j n)
        have HSKO := HSK.out
        have HSLO := HSL.out
        have hj12 : (j : Int) ≤ 12 := by omega
        clear hb hall
        by_cases hlt : j < S
        · have hle : (j : Int) + 1 ≤ (f : Int) := by omega
          have HKB : Hid (kb t p n f (j + 1) = (kb t p n f j && (decide (itr (sx t p) (j + 1) n < n) == decide (j + 1 = f)))) := Lib.hid rfl
          rw [HIS.out] at HKB
          obtain ⟨v, hv⟩ : ∃ v, v = itr (sx t p) j n := ⟨_, rfl⟩
          rw [← hv] at hnum HIS HKB ⊢
          obtain ⟨n1, n2⟩ := numB_iff.1 hnum
          have HS := Lib.hid (fun w => mpShort_any t p v w HG.out hnum)
          have hbd := sx_bound HG.out hnum
          have HSUCC : Hid (allB (sx t p) n (j + 1 + 1) = numB (sx t p v)) := Lib.hid (by rw [allB_succ, HALL.out, HIS.out]; rfl)
          have HIN := Lib.hid (fun w => mpIs_any (sx t p v) w)
          have HKJ := Lib.hid hlt
          have HFAIL : Hid (numB (sx t p v) = false → kp t p n K = (false, false)) := Lib.hid (fun h => by
            rw [HKP.out, if_neg]
            intro h2
            have h3 := allB_le (j := j + 1 + 1) (by omega) h2
            rw [HSUCC.out, h] at h3
            cases h3)
          have HEQ : Hid (decide (j + 1 = f) = (((j : Int) + 1) == (f : Int))) := Lib.hid (by rw [Bool.eq_iff_iff]; simp; omega)
          rw [HEQ.out] at HKB
          generalize sx t p v = u at HS HIS HSUCC HIN HFAIL HKB hbd
          obtain ⟨u1, u2⟩ := hbd
          clear hv hnum hlt hj HSKO HSLO HEQ
          cases hu : numB u
          · rw [hu] at HIN
            have HR := Lib.hid (HFAIL.out hu)
            clear hu HFAIL HKB
            go_wp2_with (first | (go_at_call 75; refine (HS.out _).mono ?_; rintro e w2 ⟨rfl, hb2⟩) | (go_at_call 60; refine (HIN.out _).mono ?_; rintro e w' ⟨rfl, rfl⟩))
            go_ret2
            exact ⟨ret_bb (by rw [HR.out]) (by rw [HR.out]), HB.out.trans (hb2.mono HB.out.size)⟩
          · rw [hu] at HIN
            have HU := Lib.hid hu
            clear hu HFAIL
            cases hkb : kb t p n f j
            · rw [hkb] at HKB
              go_wp2_with (first | (go_at_call 75; refine (HS.out _).mono ?_; rintro e w2 ⟨rfl, hb2⟩) | (go_at_call 60; refine (HIN.out _).mono ?_; rintro e w' ⟨rfl, rfl⟩))
              exact ⟨⟨j + 1, HKJ.out, by go_num, by rw [HIS.out], by rw [HKB.out]; rfl, by rw [HSUCC.out, HU.out], kept_cell hb2 hz c0, kept_cell hb2 hz c1, Nat.lt_of_lt_of_le hz hb2.size, HB.out.trans (hb2.mono HB.out.size)⟩, by simp [intOf]; have := HKJ.out; omega⟩
            · rw [hkb, Bool.true_and] at HKB
              obtain ⟨b1, hb1⟩ : ∃ b1, decide (u < n) = b1 := ⟨_, rfl⟩
              obtain ⟨b2, hbq⟩ : ∃ b2, (((j : Int) + 1) == (f : Int)) = b2 := ⟨_, rfl⟩
              rw [hb1, hbq] at HKB
              cases b1 <;> cases b2
              all_goals
                go_wp2_with (first | (go_at_call 75; refine (HS.out _).mono ?_; rintro e w2 ⟨rfl, hb2⟩) | (go_at_call 60; refine (HIN.out _).mono ?_; rintro e w' ⟨rfl, rfl⟩))
                exact ⟨⟨j + 1, HKJ.out, by go_num, by rw [HIS.out], by rw [HKB.out]; first | rfl | simp, by rw [HSUCC.out, HU.out], kept_cell hb2 hz c0, kept_cell hb2 hz c1, Nat.lt_of_lt_of_le hz hb2.size, HB.out.trans (hb2.mono HB.out.size)⟩, by simp [intOf]; have := HKJ.out; omega⟩
        · have HJ : Hid (j = S) := Lib.hid (by omega)
          have hle : ¬ ((j : Int) + 1 ≤ (f : Int)) := by omega
          have HR : Hid (kp t p n K = (kb t p n f j, true)) := Lib.hid (by rw [HKP.out, ← HJ.out, if_pos HALL.out])
          clear hj hlt hnum HSKO HSLO
          go_wp2_with fail
          go_ret2
          exact ⟨ret_bb (by rw [HR.out]) (by rw [HR.out]), HB.out⟩
end Go.Proofs.YtencblbkbalmcaaDoor
