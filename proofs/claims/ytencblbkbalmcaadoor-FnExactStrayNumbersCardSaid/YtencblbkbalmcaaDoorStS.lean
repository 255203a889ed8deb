/-
  'StrayNumbers' of the model.
-/
import Derived.Test.YtencblbkbalmcaaDoorKpS
import Derived.Test.YtencblbkbalmcaaDoorLfR
namespace Go.Proofs.YtencblbkbalmcaaDoor
open Go.RowKit
set_option linter.unusedVariables false

/-- Those of n numbers from 1 on that do not keep to their residue. -/
def stL (t p : Int) (K n : Nat) : List Int := (upL 1 n).filter fun x => !(kp t p x K).1
/-- Are all on their ways numbers? -/
def stOk (t p : Int) (K n : Nat) : Bool := (upL 1 n).all fun x => (kp t p x K).2
theorem stL_yes {t p : Int} {K n : Nat} (h : (kp t p (1 + (n : Int)) K).1 = false) : stL t p K (n + 1) = stL t p K n ++ [1 + (n : Int)] := by
  unfold stL; rw [upL_succ, List.filter_append]; simp [h]
theorem stL_no {t p : Int} {K n : Nat} (h : (kp t p (1 + (n : Int)) K).1 = true) : stL t p K (n + 1) = stL t p K n := by
  unfold stL; rw [upL_succ, List.filter_append]; simp [h]
theorem stOk_succ (t p : Int) (K n : Nat) : stOk t p K (n + 1) = (stOk t p K n && (kp t p (1 + (n : Int)) K).2) := by
  unfold stOk; rw [upL_succ, List.all_append]; simp
theorem stOk_le {t p : Int} {K j n : Nat} (h : j ≤ n) (hj : stOk t p K j = false) : stOk t p K n = false := by
  induction n with
  | zero => obtain rfl : j = 0 := by omega
            exact hj
  | succ n ih =>
    by_cases e : j = n + 1
    · rw [← e]; exact hj
    · rw [stOk_succ, ih (by omega)]; rfl
theorem stL_len (t p : Int) (K n : Nat) : (stL t p K n).length ≤ n := by
  have := List.length_filter_le (fun x => !(kp t p x K).1) (upL 1 n)
  rw [upL_length] at this
  exact this
/-- Are there a map, a power and a limit? -/
def askT (t p k m : Int) : Bool := ((goodB t p && inB k 0 12) && decide (k ≠ 0)) && inB m 0 2000
/-- What StrayNumbers comes to. -/
def stB (t p k m : Int) : Bool := askT t p k m && stOk t p k.toNat m.toNat
def stA (t p k m : Int) : List Int := if stB t p k m = true then stL t p k.toNat m.toNat else []
theorem stA_len (t p k m : Int) : (stA t p k m).length ≤ 1000000000000 := by
  unfold stA
  split
  · rename_i h
    have hm : m.toNat ≤ 2000 := by simp [stB, askT, inB] at h; omega
    exact Nat.le_trans (stL_len _ _ _ _) (Nat.le_trans hm (by decide))
  · simp
theorem stA_no {t p k m : Int} (h : stB t p k m = false) : stA t p k m = [] := by rw [stA, if_neg (by simp [h])]

set_option maxRecDepth 100000 in
set_option maxHeartbeats 4000000 in
theorem sStrayNumbers (t p k m : Int) (w : World) :
    Calls Tryd.prog 33 #[.agg #[.int .i64 t, .int .i64 p], .int .i64 k, .int .i64 m] w (RetInts (stA t p k m) (stB t p k m) w) := by
  have HR := Lib.hid (fun w => rsPower_any t p k 12 w)
  have HI := Lib.hid (fun w => l1In_any m 0 2000 w)
  cases ha : (goodB t p && inB k 0 12)
  · have HA : Hid (stB t p k m = false) := Lib.hid (by rw [stB, askT, ha]; rfl)
    have HY := Lib.hid (stA_no HA.out)
    rw [ha] at HR
    clear ha
    go_enter Tryd.func33, Tryd.ntmps33
    go_wp2_with fail
    refine (HR.out _).mono ?_
    rintro e w1 ⟨rfl, hb1⟩
    obtain ⟨c0, c1, hz, hb⟩ := map_block hb1
    clear hb1
    go_wp2_with fail
    go_ret2
    exact retI_none HY.out HA.out hb
  · obtain ⟨hg, hk⟩ : goodB t p = true ∧ inB k 0 12 = true := by simpa using ha
    rw [ha] at HR
    obtain ⟨K, rfl, hK⟩ := inB_nat hk
    by_cases hk0 : K = 0
    · have HA : Hid (stB t p K m = false) := Lib.hid (by rw [stB, askT]; simp [hk0])
      have HY := Lib.hid (stA_no HA.out)
      have h0' : ((K : Int) == 0) = true := by simp [hk0]
      clear ha hg hk hk0
      go_enter Tryd.func33, Tryd.ntmps33
      go_wp2_with fail
      refine (HR.out _).mono ?_
      rintro e w1 ⟨rfl, hb1⟩
      obtain ⟨c0, c1, hz, hb⟩ := map_block hb1
      clear hb1
      go_wp2_with fail
      go_ret2
      exact retI_none HY.out HA.out hb
    · have h0' : ((K : Int) == 0) = false := by simp; omega
      cases hm : inB m 0 2000
      · have HA : Hid (stB t p K m = false) := Lib.hid (by rw [stB, askT, hm]; simp)
        have HY := Lib.hid (stA_no HA.out)
        rw [hm] at HI
        clear ha hg hk hk0 hm
        go_enter Tryd.func33, Tryd.ntmps33
        go_wp2_with fail
        refine (HR.out _).mono ?_
        rintro e w1 ⟨rfl, hb1⟩
        obtain ⟨c0, c1, hz, hb⟩ := map_block hb1
        clear hb1
        go_wp2_with (go_at_call 43; refine (HI.out _).mono ?_; rintro e w' ⟨rfl, rfl⟩)
        go_ret2
        exact retI_none HY.out HA.out hb
      · obtain ⟨n, rfl, hn⟩ := inB_nat hm
        rw [hm] at HI
        have HASK : Hid (stB t p K n = stOk t p K n) := Lib.hid (by rw [stB, askT, ha, hm]; simp; exact fun _ => hk0)
        have HYES : Hid (stOk t p K n = true → stA t p K n = stL t p K n) := Lib.hid (fun h => by rw [stA, if_pos (by rw [HASK.out]; exact h)]; rfl)
        have HNOA : Hid (stOk t p K n = false → stA t p K n = []) := Lib.hid (fun h => stA_no (by rw [HASK.out]; exact h))
        have HK := Lib.hid (fun x (h1 : 1 ≤ x) (h2 : x ≤ 2001) w => rsKeeps_any t p x K w hg (numB_iff.2 ⟨by omega, by omega⟩) (by omega))
        have HN := Lib.hid hn
        have HZ : Hid (∀ W B, IntsAt W B (.slice none 0 0) (stL t p K 0)) := Lib.hid (fun W B => intsAt_nil _ _)
        clear ha hg hk hk0 hm
        go_enter Tryd.func33, Tryd.ntmps33
        go_wp2_with fail
        refine (HR.out _).mono ?_
        rintro e w1 ⟨rfl, hb1⟩
        obtain ⟨c0, c1, hz, hb⟩ := map_block hb1
        have HB := Lib.hid hb
        clear hb1 hb
        go_wp2_with (go_at_call 43; refine (HI.out _).mono ?_; rintro e w' ⟨rfl, rfl⟩)
        go_loopw [8, 9, 10, 11] (fun v x _ _ wr => ∃ j : Nat, j ≤ n ∧ x = .int .i64 (1 + (j : Int)) ∧ stOk t p K j = true ∧ IntsAt wr (w.heap.size + 1) v (stL t p K j) ∧ wr.cell? ⟨w.heap.size, 0, none⟩ = some (.int .i64 t) ∧ wr.cell? ⟨w.heap.size, 1, none⟩ = some (.int .i64 p) ∧ w.heap.size < wr.heap.size ∧ Below w.heap.size w wr) (fun _ x _ _ _ => n + 1 - (RowKit.intOf x - 1).toNat)
        case atStart => exact ⟨0, Nat.zero_le _, by simp, rfl, HZ.out _ _, c0, c1, hz, HB.out⟩
        case round =>
          clear c0 c1 HB hz
          obtain ⟨j, hj, rfl, hok, hrow, c0, c1, hz, hbel⟩ := hrel
          have HO := Lib.hid hrow
          have HB := Lib.hid hbel
          have HOK := Lib.hid hok
          clear hrow hbel hok
          by_cases hlt : j < n
          · have hle : (1 + (j : Int)) ≤ (n : Int) := by omega
            have HKJ := Lib.hid (fun w => HK.out (1 + (j : Int)) (by omega) (by have := HN.out; omega) w)
            have hlen := stL_len t p K j
            have HY1 := Lib.hid (fun h => stL_yes (t := t) (p := p) (K := K) (n := j) h)
            have HN1 := Lib.hid (fun h => stL_no (t := t) (p := p) (K := K) (n := j) h)
            have HSU := Lib.hid (stOk_succ t p K j)
            rw [HOK.out, Bool.true_and] at HSU
            have HLE := Lib.hid (fun h => stOk_le (t := t) (p := p) (K := K) (j := j + 1) (n := n) hlt h)
            obtain ⟨y, hy⟩ : ∃ y, y = 1 + (j : Int) := ⟨_, rfl⟩
            rw [← hy] at HKJ HY1 HN1 HSU hle ⊢
            obtain ⟨r1, hr1⟩ : ∃ r, (kp t p y K).1 = r := ⟨_, rfl⟩
            obtain ⟨r2, hr2⟩ : ∃ r, (kp t p y K).2 = r := ⟨_, rfl⟩
            rw [hr1, hr2] at HKJ
            rw [hr1] at HY1 HN1
            rw [hr2] at HSU
            obtain ⟨l, hl⟩ : ∃ l, l = stL t p K j := ⟨_, rfl⟩
            rw [← hl] at HO HY1 HN1 hlen
            have hlnt : n ≤ 2000 := by have := HN.out; omega
            have HLL := Lib.hid (show l.length ≤ 5000 by omega)
            have HY0 := Lib.hid hy
            have hyb : 0 ≤ y := by omega
            have hyt : y ≤ 5001 := by omega
            have HYY : Hid (y + 1 = 1 + ((j + 1 : Nat) : Int)) := Lib.hid (by omega)
            clear hl hlen hy hr1 hr2 hlnt
            cases r2
            · have HF := Lib.hid (HNOA.out (HLE.out HSU.out))
              have HF2 : Hid (stB t p K n = false) := Lib.hid (by rw [HASK.out]; exact HLE.out HSU.out)
              go_wp2_with fail
              refine (HKJ.out _).mono ?_
              rintro e w2 ⟨rfl, hb2⟩
              have HB2 := Lib.hid (HB.out.trans (hb2.mono HB.out.size))
              clear hb2
              go_wp2_with fail
              go_ret2
              exact retI_none HF.out HF2.out HB2.out
            · cases r1
              · have HL2 := Lib.hid (HY1.out rfl)
                go_wp2_with fail
                refine (HKJ.out _).mono ?_
                rintro e w3 ⟨rfl, hb4⟩
                have e0 := kept_cell hb4 hz c0
                have e1 := kept_cell hb4 hz c1
                have HO4 := Lib.hid (ownsRow_kept HO.out hb4)
                have HB4 := Lib.hid (HB.out.trans (hb4.mono (Nat.le_of_lt hz)))
                have hz4 := Nat.lt_of_lt_of_le hz hb4.size
                clear hb4 c0 c1
                obtain ⟨i0, hi, hi0, hi1, hi2⟩ := info_parts info3
                have hll := HLL.out
                have hj2 : l.length + 1 ≤ maxLen := by unfold maxLen; omega
                go_wp2_with (at_builtin; refine wpList_append_own _ rfl _ _ 36 rfl (w.heap.size + 1) 3 i0 (.int .i64 0) 1 8 Tryd.underlying36 hi hi0 hi1 hi2 rfl (by decide) _ _ _ rfl (HO4.out.alloc _) ⟨w3.heap.size, 0, none⟩ 1 1 [.int .i64 y] rfl rfl ?_ ?_ ?_ ?_ ?_ ?_; rotate_right; intro v' w5 hown hgrow _)
                · have hbg : Below (w.heap.size + 1) w3 w5 := ((Below.refl (w.heap.size + 1) w3).alloc hz4 _).grown hgrow (by simp; omega) (fun k e => (HO4.out.lt k e).1)
                  refine ⟨⟨j + 1, hlt, by rw [HYY.out], HSU.out, ?_, (hbg.cell (p := ⟨w.heap.size, 0, none⟩) (Nat.lt_succ_self _)).trans e0, (hbg.cell (p := ⟨w.heap.size, 1, none⟩) (Nat.lt_succ_self _)).trans e1, Nat.lt_of_lt_of_le hz4 hbg.size, HB4.out.trans (hbg.mono (Nat.le_succ _))⟩, by have hy := HY0.out; simp [RowKit.intOf]; omega⟩
                  unfold IntsAt
                  rw [HL2.out, List.map_append, List.length_append]
                  exact hown
                · exact fun j u hu => new_cell _ _ _ hu
                · simp [Value.oneCell']
                · exact hj2
                · omega
                · simp; omega
              · have HL2 := Lib.hid (HN1.out rfl)
                go_wp2_with fail
                refine (HKJ.out _).mono ?_
                rintro e w3 ⟨rfl, hb4⟩
                have e0 := kept_cell hb4 hz c0
                have e1 := kept_cell hb4 hz c1
                have HO4 := Lib.hid (ownsRow_kept HO.out hb4)
                have HB4 := Lib.hid (HB.out.trans (hb4.mono (Nat.le_of_lt hz)))
                have hz4 := Nat.lt_of_lt_of_le hz hb4.size
                clear hb4 c0 c1
                go_wp2_with fail
                exact ⟨⟨j + 1, hlt, by rw [HYY.out], HSU.out, by rw [HL2.out]; exact HO4.out, e0, e1, hz4, HB4.out⟩, by have hy := HY0.out; simp [RowKit.intOf]; omega⟩
          · have HJ : Hid (j = n) := Lib.hid (by omega)
            have hle : ¬ ((1 + (j : Int)) ≤ (n : Int)) := by omega
            clear hlt hj
            go_wp2_with fail
            go_ret2
            have hok := HOK.out
            rw [HJ.out] at hok
            rw [HASK.out, HYES.out hok, hok]
            have h := HO.out
            rw [HJ.out] at h
            exact ⟨_, rfl, ownsRow_base h (by omega), HB.out⟩
end Go.Proofs.YtencblbkbalmcaaDoor
