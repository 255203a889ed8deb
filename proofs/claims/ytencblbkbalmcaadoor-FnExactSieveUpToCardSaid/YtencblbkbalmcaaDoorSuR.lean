/-
  'SieveUpTo' of the model.
-/
import Derived.Test.YtencblbkbalmcaaDoorLfR
namespace Go.Proofs.YtencblbkbalmcaaDoor
open Go.RowKit
set_option linter.unusedVariables false

set_option maxRecDepth 100000 in
set_option maxHeartbeats 16000000 in
theorem sSieveUpTo (t p k m : Int) (w : World) :
    Calls Tryd.prog 35 #[.agg #[.int .i64 t, .int .i64 p], .int .i64 k, .int .i64 m] w (RetInts (suA t p k m) (askS t p k m) w) := by
  have HR := Lib.hid (fun w => rsPower_any t p k 12 w)
  have HI := Lib.hid (fun w => l1In_any m 0 2000 w)
  cases ha : (goodB t p && inB k 0 12)
  · have HA : Hid ((askS t p k m) = false) := Lib.hid (by rw [askS, ha]; rfl)
    have HY : Hid (suA t p k m = []) := Lib.hid (by rw [suA, if_neg (by rw [HA.out]; simp)])
    rw [ha] at HR
    clear ha
    go_enter Tryd.func35, Tryd.ntmps35
    go_wp2_with fail
    refine (HR.out _).mono ?_
    rintro e w1 ⟨rfl, hb1⟩
    obtain ⟨c0, c1, hz, hb⟩ := map_block hb1
    clear hb1
    go_wp2_with (go_at_call 43; refine (HI.out _).mono ?_; rintro e w' ⟨rfl, rfl⟩)
    go_ret2
    exact retI_none HY.out HA.out hb
  · obtain ⟨hg, hk⟩ : goodB t p = true ∧ inB k 0 12 = true := by simpa using ha
    obtain ⟨K, rfl, hK⟩ := inB_nat hk
    cases hm : inB m 0 2000
    case false =>
      have HA : Hid (askS t p K m = false) := Lib.hid (by rw [askS, ha, hm]; rfl)
      have HY : Hid (suA t p K m = []) := Lib.hid (by rw [suA, if_neg (by rw [HA.out]; simp)])
      rw [ha] at HR
      rw [hm] at HI
      clear ha hg hk hm
      go_enter Tryd.func35, Tryd.ntmps35
      go_wp2_with fail
      refine (HR.out _).mono ?_
      rintro e w1 ⟨rfl, hb1⟩
      obtain ⟨c0, c1, hz, hb⟩ := map_block hb1
      clear hb1
      go_wp2_with (go_at_call 43; refine (HI.out _).mono ?_; rintro e w' ⟨rfl, rfl⟩)
      go_ret2
      exact retI_none HY.out HA.out hb
    obtain ⟨n, rfl, hn⟩ := inB_nat hm
    have HA : Hid (askS t p K n = true) := Lib.hid (by rw [askS, ha, hm]; rfl)
    have HY : Hid (suA t p K n = lrL t p K 1 n) := Lib.hid (by rw [suA, if_pos HA.out]; rfl)
    rw [hm] at HI
    have HW := Lib.hid (fun x (h0 : 0 ≤ x) (h1 : x ≤ 5000) w => left_word (t := t) (p := p) (n := x) hg K (by omega) h0 h1 w)
    have HF := Lib.hid (fun x w => rsFall_any t p x K w hg (by omega))
    have HLE := Lib.hid (fun j => lrL_len t p K 1 j)
    have HYES := Lib.hid (fun (j : Nat) (h : fa t p (1 + (j : Int)) K = 0) => lrL_yes h)
    have HNO := Lib.hid (fun (j : Nat) (h : fa t p (1 + (j : Int)) K ≠ 0) => lrL_no h)
    have HZ : Hid (∀ W B, IntsAt W B (.slice none 0 0) (lrL t p K 1 0)) := Lib.hid (fun W B => intsAt_nil _ _)
    have hK0 : 0 ≤ (K : Int) := by omega
    rw [ha] at HR
    clear ha hg hk hm
    go_enter Tryd.func35, Tryd.ntmps35
    go_wp2_with fail
    refine (HR.out _).mono ?_
    rintro e w1 ⟨rfl, hb1⟩
    obtain ⟨c0, c1, hz, hb⟩ := map_block hb1
    have HB := Lib.hid hb
    clear hb1 hb
    go_wp2_with (go_at_call 43; refine (HI.out _).mono ?_; rintro e w' ⟨rfl, rfl⟩)
    go_loopw [8, 9] (fun v x wr => ∃ j : Nat, j ≤ n ∧ x = .int .i64 (1 + (j : Int)) ∧ IntsAt wr (w.heap.size + 1) v (lrL t p K 1 j) ∧ wr.cell? ⟨w.heap.size, 0, none⟩ = some (.int .i64 t) ∧ wr.cell? ⟨w.heap.size, 1, none⟩ = some (.int .i64 p) ∧ w.heap.size < wr.heap.size ∧ Below w.heap.size w wr) (fun _ x _ => n + 1 - ((RowKit.intOf x) - 1).toNat)
    case atStart => exact ⟨0, Nat.zero_le _, by simp, HZ.out _ _, c0, c1, hz, HB.out⟩
    case round =>
      clear c0 c1 HB hz
      obtain ⟨j, hj, rfl, hrow, c0, c1, hz, hbel⟩ := hrel
      have HO := Lib.hid hrow
      have HB := Lib.hid hbel
      clear hrow hbel
      by_cases hlt : j < n
      · have hle : (1 + (j : Int)) ≤ (n : Int) := by omega
        have HWJ := Lib.hid (fun w => HW.out (1 + (j : Int)) (by omega) (by omega) w)
        have HFJ := Lib.hid (fun w => HF.out (1 + (j : Int)) w)
        have hlen := HLE.out j
        have HYJ := Lib.hid (HYES.out j)
        have HNJ := Lib.hid (HNO.out j)
        obtain ⟨y, hy⟩ : ∃ y, y = 1 + (j : Int) := ⟨_, rfl⟩
        rw [← hy] at HWJ HFJ HYJ HNJ hle ⊢
        generalize wby (wrd t p y K) = s at HWJ HFJ
        obtain ⟨l, hl⟩ : ∃ l, l = lrL t p K 1 j := ⟨_, rfl⟩
        rw [← hl] at HO HYJ HNJ hlen
        have hj2 : l.length + 1 ≤ maxLen := by unfold maxLen; omega
        have hll : l.length ≤ 5000 := by omega
        have hyb : 0 ≤ y := by omega
        have hyt : y ≤ 5001 := by omega
        have HYY : Hid (y + 1 = 1 + ((j + 1 : Nat) : Int)) := Lib.hid (by omega)
        have HLL := Lib.hid hll
        have HYB := Lib.hid (And.intro hyb hyt)
        have HY0 := Lib.hid hy
        clear hl hlen hy
        by_cases hfa : fa t p y K = 0
        · have HL2 := Lib.hid (HYJ.out hfa)
          rw [hfa] at HFJ
          clear hfa HYJ HNJ 
          
          
          go_wp2_with fail
          
          clear hj2 hle hyb hyt hll
          go_region_with (first
            | (go_at_call 49; refine (HWJ.out _).mono ?_; rintro e w2 ⟨rfl, hb2⟩; have d0 := kept_cell hb2 hz c0; have d1 := kept_cell hb2 hz c1)
            | (go_at_call 48; refine (HFJ.out _).mono ?_; rintro e w3 ⟨rfl, hb3⟩))
          all_goals
            have hb4 : Below wr.heap.size wr w3 := by
              first
                | exact ((Below.refl _ wr).drew.trans (hb2.mono (by simp))).trans (hb3.mono (by have := hb2.size; simpa using this))
                | exact hb2.trans (hb3.mono hb2.size)
            have e0 := kept_cell hb4 hz c0
            have e1 := kept_cell hb4 hz c1
            have HO4 := Lib.hid (ownsRow_kept HO.out hb4)
            have HB4 := Lib.hid (HB.out.trans (hb4.mono (Nat.le_of_lt hz)))
            have hz4 := Nat.lt_of_lt_of_le hz hb4.size
            clear hb2 hb3 hb4 c0 c1 d0 d1
            obtain ⟨i0, hi, hi0, hi1, hi2⟩ := info_parts info3
            have hll := HLL.out
            have hj2 : l.length + 1 ≤ maxLen := by unfold maxLen; omega
            have hyb := HYB.out.1
            have hyt := HYB.out.2
            go_wp2_with (at_builtin; refine wpList_append_own _ rfl _ _ 36 rfl (w.heap.size + 1) 3 i0 (.int .i64 0) 1 8 Tryd.underlying36 hi hi0 hi1 hi2 rfl (by decide) _ _ _ rfl (HO4.out.alloc _) ⟨w3.heap.size, 0, none⟩ 1 1 [.int .i64 y] rfl rfl ?_ ?_ ?_ ?_ ?_ ?_; rotate_right; intro v' w5 hown hgrow _)
            · have hbg : Below (w.heap.size + 1) w3 w5 := ((Below.refl (w.heap.size + 1) w3).alloc hz4 _).grown hgrow (by simp; omega) (fun k e => (HO4.out.lt k e).1)
              refine ⟨⟨j + 1, hlt, by rw [HYY.out], ?_, (hbg.cell (p := ⟨w.heap.size, 0, none⟩) (Nat.lt_succ_self _)).trans e0, (hbg.cell (p := ⟨w.heap.size, 1, none⟩) (Nat.lt_succ_self _)).trans e1, Nat.lt_of_lt_of_le hz4 hbg.size, HB4.out.trans (hbg.mono (Nat.le_succ _))⟩, by have hy := HY0.out; simp [RowKit.intOf]; omega⟩
              unfold IntsAt
              rw [HL2.out, List.map_append, List.length_append]
              exact hown
            · exact fun j u hu => new_cell _ _ _ hu
            · simp [Value.oneCell']
            · exact hj2
            · omega
            · simp; omega
        · have HL2 := Lib.hid (HNJ.out hfa)
          have hA : (((fa t p y K : Nat) : Int) == 0) = false := by simpa using hfa
          have hA2 : ¬ (((fa t p y K : Nat) : Int) = 0) := by simpa using hfa
          generalize fa t p y K = A at HFJ hA hA2
          clear hfa HYJ HNJ 
          
          
          go_wp2_with fail
          
          clear hj2 hle hyb hyt hll
          go_region_with (first
            | (go_at_call 49; refine (HWJ.out _).mono ?_; rintro e w2 ⟨rfl, hb2⟩; have d0 := kept_cell hb2 hz c0; have d1 := kept_cell hb2 hz c1)
            | (go_at_call 48; refine (HFJ.out _).mono ?_; rintro e w3 ⟨rfl, hb3⟩))
          all_goals
            have hb4 : Below wr.heap.size wr w3 := by
              first
                | exact ((Below.refl _ wr).drew.trans (hb2.mono (by simp))).trans (hb3.mono (by have := hb2.size; simpa using this))
                | exact hb2.trans (hb3.mono hb2.size)
            have e0 := kept_cell hb4 hz c0
            have e1 := kept_cell hb4 hz c1
            have HO4 := Lib.hid (ownsRow_kept HO.out hb4)
            have HB4 := Lib.hid (HB.out.trans (hb4.mono (Nat.le_of_lt hz)))
            have hz4 := Nat.lt_of_lt_of_le hz hb4.size
            clear hb2 hb3 hb4 c0 c1 d0 d1
            have hyb := HYB.out.1
            have hyt := HYB.out.2
            go_wp2_with fail
            exact ⟨⟨j + 1, hlt, by rw [HYY.out], by rw [HL2.out]; exact HO4.out, e0, e1, hz4, HB4.out⟩, by have hy := HY0.out; simp [RowKit.intOf]; omega⟩
      · have HJ : Hid (j = n) := Lib.hid (by omega)
        have hle : ¬ ((1 + (j : Int)) ≤ (n : Int)) := by omega
        
        clear hlt hj
        go_wp2_with fail
        go_ret2
        rw [HA.out, HY.out]
        have h := HO.out
        rw [HJ.out] at h
        exact ⟨_, rfl, ownsRow_base h (by omega), HB.out⟩
end Go.Proofs.YtencblbkbalmcaaDoor
