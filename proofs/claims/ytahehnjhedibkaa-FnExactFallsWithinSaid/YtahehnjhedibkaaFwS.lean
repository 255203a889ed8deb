/-
  'FallsWithin' of both.
-/
import Derived.Test.YtahehnjhedibkaaFwI
import Derived.Test.YtahehnjhedibkaaIterS
namespace Go.Proofs.Ytahehnjhedibkaa
open Go.RowKit
set_option linter.unusedVariables false

theorem ret_fw {x : Int × Bool} {a : Int} {b : Bool} (h : x = (a, b)) : Ending.returned (.tuple #[.int .i64 a, .bool b]) = .returned (.tuple #[.int .i64 x.1, .bool x.2]) := by rw [h]

theorem iFallsWithin (t p n k : Int) (w : World) :
    Calls Try.prog 10 #[.agg #[.int .i64 t, .int .i64 p], .int .i64 n, .int .i64 k] w fun e w' => e = .returned (.tuple #[.int .i64 (fwi t p n k).1, .bool (fwi t p n k).2]) ∧ Below w.heap.size w w' := by
  by_cases h : 1 ≤ k ∧ k ≤ 30
  · obtain ⟨K, rfl⟩ : ∃ K : Nat, k = K := ⟨k.toNat, by omega⟩
    have hf : fwi t p n K = hitK (seqOf t p (sx t p) n) K (fun x => decide (x.2 < n)) := by rw [fwi, if_pos h]; rfl
    rw [hf]
    exact iFallsWithin_any t p n K (by omega) (by omega) _ (numbered_seq _ _ _ _) (fun bw bs => iter_short bw bs t p n) w
  · have hf : fwi t p n k = (0, false) := by rw [fwi, if_neg h]
    have HF := Lib.hid hf
    clear hf
    by_cases h1 : k < 1
    · clear h
      go_enter Try.func10, Try.ntmps10
      go_wp2_with fail
      refine bodyPost_ret (v := .tuple #[.int .i64 0, .bool false]) (by simp [results, Try.results10, go_sem]) rfl ⟨ret_fw HF.out, ?_⟩
      refine (((((Below.refl _ w).alloc ?_ _).alloc ?_ _).alloc ?_ _).alloc ?_ _).alloc ?_ _ <;> (simp <;> omega)
    · have h2 : 30 < k := by omega
      clear h
      go_enter Try.func10, Try.ntmps10
      go_wp2_with fail
      refine bodyPost_ret (v := .tuple #[.int .i64 0, .bool false]) (by simp [results, Try.results10, go_sem]) rfl ⟨ret_fw HF.out, ?_⟩
      refine (((((Below.refl _ w).alloc ?_ _).alloc ?_ _).alloc ?_ _).alloc ?_ _).alloc ?_ _ <;> (simp <;> omega)

theorem fwi_no {t p n k : Int} (h : goodB t p = false ∨ numB n = false ∨ inB k 1 30 = false) : fwi t p n k = (0, false) := by
  unfold fwi
  split
  · rename_i hk
    rw [hitK]
    refine hit_none (fun y hy => ?_)
    have hy := List.mem_of_mem_take hy
    unfold seqOf at hy
    split at hy
    · rename_i hg
      rcases h with h | h | h
      · rw [hg] at h; cases h
      · simp only [upto, List.mem_map, List.mem_range] at hy
        obtain ⟨j, hj, rfl⟩ := hy
        have h2 := ((lt_cnt _ _ _ _).1 hj).2
        have h3 := allB_at (f := sx t p) (n := n) (j := 0) (k := j + 1) (by omega) h2
        rw [itr, h] at h3
        cases h3
      · simp [inB, hk] at h
    · simp at hy
  · rfl

set_option maxHeartbeats 2000000 in
theorem sFallsWithin (t p n k : Int) (w : World) :
    Calls Try.prog 8 #[.agg #[.int .i64 t, .int .i64 p], .int .i64 n, .int .i64 k] w fun e w' => e = .returned (.tuple #[.int .i64 (fwi t p n k).1, .bool (fwi t p n k).2]) ∧ Below w.heap.size w w' := by
  have HM := Lib.hid (fun w => mpGood_any t p w)
  have HI := Lib.hid (fun w => mpIs_any n w)
  have HL := Lib.hid (fun w => l1In_any k 1 30 w)
  cases hg : goodB t p
  · have HF := Lib.hid (fwi_no (t := t) (p := p) (n := n) (k := k) (.inl hg))
    rw [hg] at HM
    clear hg
    go_enter Try.func8, Try.ntmps8
    go_wp2_with fail
    refine (HM.out _).mono ?_
    rintro e w1 ⟨rfl, hb1⟩
    obtain ⟨c0, c1, hz, hb⟩ := map_block hb1
    clear hb1
    go_wp2_with fail
    go_ret2
    exact ⟨ret_fw HF.out, hb⟩
  · rw [hg] at HM
    cases hn : numB n
    · have HF := Lib.hid (fwi_no (t := t) (p := p) (n := n) (k := k) (.inr (.inl hn)))
      rw [hn] at HI
      clear hg hn
      go_enter Try.func8, Try.ntmps8
      go_wp2_with fail
      refine (HM.out _).mono ?_
      rintro e w1 ⟨rfl, hb1⟩
      obtain ⟨c0, c1, hz, hb⟩ := map_block hb1
      clear hb1
      go_wp2_with (go_at_call 23; refine (HI.out _).mono ?_; rintro e w' ⟨rfl, rfl⟩)
      go_ret2
      exact ⟨ret_fw HF.out, hb⟩
    · rw [hn] at HI
      cases hk : inB k 1 30
      · have HF := Lib.hid (fwi_no (t := t) (p := p) (n := n) (k := k) (.inr (.inr hk)))
        rw [hk] at HL
        clear hg hn hk
        go_enter Try.func8, Try.ntmps8
        go_wp2_with fail
        refine (HM.out _).mono ?_
        rintro e w1 ⟨rfl, hb1⟩
        obtain ⟨c0, c1, hz, hb⟩ := map_block hb1
        clear hb1
        go_wp2_with (first | (go_at_call 23; refine (HI.out _).mono ?_; rintro e w' ⟨rfl, rfl⟩) | (go_at_call 24; refine (HL.out _).mono ?_; rintro e w' ⟨rfl, rfl⟩))
        go_ret2
        exact ⟨ret_fw HF.out, hb⟩
      · obtain ⟨hk1, hk2⟩ : 1 ≤ k ∧ k ≤ 30 := by simpa [inB] using hk
        obtain ⟨K, rfl⟩ : ∃ K : Nat, k = K := ⟨k.toNat, by omega⟩
        rw [hk] at HL
        have HG := Lib.hid hg
        have hS : seqOf t p (sx t p) n = upto (sx t p) n (cntF (sx t p) 1001 n) := by rw [seqOf, if_pos hg]
        have HFW : Hid (fwi t p n K = hitK (upto (sx t p) n (cntF (sx t p) 1001 n)) K (fun x => decide (x.2 < n))) := Lib.hid (by rw [fwi, if_pos ⟨hk1, hk2⟩, hS]; rfl)
        have HPRE := Lib.hid (fun j (hj : j ≤ 999) (h : allB (sx t p) n (j + 1) = true) => upto_prefix (sx t p) n (j := j + 1) (k := cntF (sx t p) 1001 n) (by
          have := (lt_cnt (sx t p) 1001 n j).2 ⟨by omega, h⟩; omega))
        have HN := Lib.hid hn
        have HKB := Lib.hid hk2
        clear hg hk hS hn
        go_enter Try.func8, Try.ntmps8
        go_wp2_with fail
        refine (HM.out _).mono ?_
        rintro e w1 ⟨rfl, hb1⟩
        obtain ⟨c0, c1, hz, hb⟩ := map_block hb1
        have HB := Lib.hid hb
        clear hb1 hb
        go_wp2_with (first | (go_at_call 23; refine (HI.out _).mono ?_; rintro e w' ⟨rfl, rfl⟩) | (go_at_call 24; refine (HL.out _).mono ?_; rintro e w' ⟨rfl, rfl⟩))
        go_loopw [8, 9] (fun x y wr => ∃ j : Nat, j ≤ K ∧ y = .int .i64 ((j : Int) + 1) ∧ x = .int .i64 (itr (sx t p) j n) ∧ allB (sx t p) n (j + 1) = true ∧ NoLs n (upto (sx t p) n (j + 1)) ∧ wr.cell? ⟨w.heap.size, 0, none⟩ = some (.int .i64 t) ∧ wr.cell? ⟨w.heap.size, 1, none⟩ = some (.int .i64 p) ∧ w.heap.size < wr.heap.size ∧ Below w.heap.size w wr) (fun _ y _ => K + 1 - (intOf y).toNat)
        case atStart =>
          refine ⟨0, Nat.zero_le _, by simp, rfl, by simp [allB, itr, HN.out], ?_, c0, c1, hz, HB.out⟩
          intro x hx
          simp [upto, itr] at hx
          subst hx
          simp
        case round =>
          clear c0 c1 hz HB
          obtain ⟨j, hj, rfl, rfl, hall, hno, c0, c1, hz, hb⟩ := hrel
          have HB := Lib.hid hb
          have HALL := Lib.hid hall
          have HNO := Lib.hid hno
          have hj30 : j ≤ 30 := by omega
          have hj30' : (j : Int) ≤ 30 := by omega
          have hnum := allB_at (Nat.lt_succ_self j) hall
          have HIS := Lib.hid (itr_succ (sx t p) j n)
          clear hb hall hno
          by_cases hlt : j < K
          · have hle : (j : Int) + 1 ≤ (K : Int) := by omega
            obtain ⟨v, hv⟩ : ∃ v, v = itr (sx t p) j n := ⟨_, rfl⟩
            rw [← hv] at hnum HIS ⊢
            obtain ⟨n1, n2⟩ := numB_iff.1 hnum
            have HS := Lib.hid (fun w => mpShort_any t p v w HG.out hnum)
            have hbd := sx_bound HG.out hnum
            have HSUCC : Hid (allB (sx t p) n (j + 1 + 1) = numB (sx t p v)) := Lib.hid (by rw [allB_succ, HALL.out, HIS.out]; rfl)
            have HUP : Hid (upto (sx t p) n (j + 1 + 1) = upto (sx t p) n (j + 1) ++ [(((j + 1 : Nat) : Int), sx t p v)]) := Lib.hid (by rw [upto_succ, HIS.out])
            have HIN := Lib.hid (fun w => mpIs_any (sx t p v) w)
            have HKJ := Lib.hid hlt
            have HJ30 := Lib.hid hj30
            have HBD : Hid (numB (sx t p v) = false → hitK (upto (sx t p) n (cntF (sx t p) 1001 n)) K (fun x => decide (x.2 < n)) = (0, false)) := Lib.hid (fun hf => by
              have hc := cnt_eq (f := sx t p) (K := 1001) (n := n) (j := j + 1) (by omega) HALL.out (by rw [HIS.out]; exact .inr hf)
              rw [hc]
              exact hitK_none HNO.out)
            have HHIT : Hid (numB (sx t p v) = true → decide (sx t p v < n) = true → hitK (upto (sx t p) n (cntF (sx t p) 1001 n)) K (fun x => decide (x.2 < n)) = (((j + 1 : Nat) : Int), true)) := Lib.hid (fun h1 h2 => by
              have hp := HPRE.out (j + 1) (by omega) (by rw [HSUCC.out]; exact h1)
              rw [HUP.out] at hp
              exact hitK_some HNO.out h2 hp (by rw [upto_length]; omega))
            have HNEXT : Hid (decide (sx t p v < n) = false → NoLs n (upto (sx t p) n (j + 1 + 1))) := Lib.hid (fun h => by
              rw [HUP.out]
              intro x hx
              rcases List.mem_append.1 hx with hx | hx
              · exact HNO.out x hx
              · obtain rfl : x = (((j + 1 : Nat) : Int), sx t p v) := by simpa using hx
                exact h)
            generalize sx t p v = u at HS HIS HSUCC HUP HIN HBD HHIT HNEXT hbd
            obtain ⟨u1, u2⟩ := hbd
            clear hv hnum hlt hj
            cases hu : numB u
            · rw [hu] at HIN
              have HR := Lib.hid (HBD.out hu)
              clear hu HBD HHIT HNEXT
              go_wp2_with (first | (go_at_call 25; refine (HS.out _).mono ?_; rintro e w2 ⟨rfl, hb2⟩) | (go_at_call 23; refine (HIN.out _).mono ?_; rintro e w' ⟨rfl, rfl⟩))
              go_ret2
              exact ⟨ret_fw (by rw [HFW.out, HR.out]), HB.out.trans (hb2.mono HB.out.size)⟩
            · rw [hu] at HIN
              have HU := Lib.hid hu
              cases hd : decide (u < n)
              · have HN2 := Lib.hid (HNEXT.out hd)
                have hd2 : ¬ (u < n) := by simpa using hd
                clear hu HBD HHIT HNEXT
                go_wp2_with (first | (go_at_call 25; refine (HS.out _).mono ?_; rintro e w2 ⟨rfl, hb2⟩) | (go_at_call 23; refine (HIN.out _).mono ?_; rintro e w' ⟨rfl, rfl⟩))
                exact ⟨⟨j + 1, HKJ.out, by go_num, by rw [HIS.out], by rw [HSUCC.out, HU.out], HN2.out, kept_cell hb2 hz c0, kept_cell hb2 hz c1, Nat.lt_of_lt_of_le hz hb2.size, HB.out.trans (hb2.mono HB.out.size)⟩, by simp [intOf]; have := HKJ.out; omega⟩
              · have HR := Lib.hid (HHIT.out hu hd)
                have hd2 : u < n := by simpa using hd
                clear hu HBD HHIT HNEXT
                go_wp2_with (first | (go_at_call 25; refine (HS.out _).mono ?_; rintro e w2 ⟨rfl, hb2⟩) | (go_at_call 23; refine (HIN.out _).mono ?_; rintro e w' ⟨rfl, rfl⟩))
                go_ret2
                exact ⟨ret_fw (by rw [HFW.out, HR.out]; rfl), HB.out.trans (hb2.mono HB.out.size)⟩
          · have HJ : Hid (j = K) := Lib.hid (by omega)
            have hle : ¬ ((j : Int) + 1 ≤ (K : Int)) := by omega
            have HR : Hid (hitK (upto (sx t p) n (cntF (sx t p) 1001 n)) K (fun x => decide (x.2 < n)) = (0, false)) := Lib.hid (by
              have hpre := HPRE.out j (by omega) HALL.out
              refine hit_none (fun y hy => HNO.out y ?_)
              have h2 : (upto (sx t p) n (cntF (sx t p) 1001 n)).take (K + 1) <+: upto (sx t p) n (j + 1) := List.prefix_of_prefix_length_le (List.take_prefix _ _) hpre (by rw [List.length_take, upto_length, upto_length, HJ.out]; exact Nat.min_le_left _ _)
              exact h2.subset hy)
            clear hj hlt hnum
            go_wp2_with fail
            go_ret2
            exact ⟨ret_fw (by rw [HFW.out, HR.out]), HB.out⟩
end Go.Proofs.Ytahehnjhedibkaa
