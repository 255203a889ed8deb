/-
  'LeftResidues', 'SieveUpTo' of both.
-/
import Derived.Test.YtencblbkbalmcaaDoorFoR
import Derived.Test.YtencblbkbalmcaaDoorSv
namespace Go.Proofs.YtencblbkbalmcaaDoor
open Go.RowKit
set_option linter.unusedVariables false

/-- Those of n numbers from a on whose residue is left. -/
def lrL (t p : Int) (K : Nat) (a : Int) (n : Nat) : List Int := (upL a n).filter fun x => decide (fa t p x K = 0)
theorem lrL_yes {t p a : Int} {K n : Nat} (h : fa t p (a + (n : Int)) K = 0) : lrL t p K a (n + 1) = lrL t p K a n ++ [a + (n : Int)] := by
  unfold lrL; rw [upL_succ, List.filter_append]; simp [h]
theorem lrL_no {t p a : Int} {K n : Nat} (h : fa t p (a + (n : Int)) K ≠ 0) : lrL t p K a (n + 1) = lrL t p K a n := by
  unfold lrL; rw [upL_succ, List.filter_append]; simp [h]
theorem lrL_len (t p : Int) (K : Nat) (a : Int) (n : Nat) : (lrL t p K a n).length ≤ n := by
  have := List.length_filter_le (fun x => decide (fa t p x K = 0)) (upL a n)
  rw [upL_length] at this
  exact this
theorem retI_none {xs : List Int} {ok : Bool} {w w' : World} (h : xs = []) (h' : ok = false) (hb : Below w.heap.size w w') : RetInts xs ok w (.returned (.tuple #[.slice none 0 0, .bool false])) w' := by
  subst h h'
  exact ⟨_, rfl, intsAt_nil _ _, hb⟩
/-- What LeftResidues comes to. -/
def lrA (t p k : Int) : List Int := if (goodB t p && inB k 0 12) = true then lrL t p k.toNat 0 (2 ^ k.toNat) else []
/-- What SieveUpTo comes to. -/
def askS (t p k m : Int) : Bool := (goodB t p && inB k 0 12) && inB m 0 2000
def suA (t p k m : Int) : List Int := if askS t p k m = true then lrL t p k.toNat 1 m.toNat else []
theorem pow2N {K : Nat} (h : K ≤ 12) : 2 ^ K ≤ 4096 := Nat.le_trans (Nat.pow_le_pow_right (by decide) h) (by decide)
theorem left_word {t p n : Int} (hg : goodB t p = true) (K : Nat) (hK : K ≤ 12) (h0 : 0 ≤ n) (h1 : n ≤ 5000) (W : World) :
    Calls Tryd.prog 49 #[.agg #[.int .i64 t, .int .i64 p], .int .i64 n, .int .i64 K] W fun e w' => e = .returned (.string (wby (wrd t p n K))) ∧ Below W.heap.size W w' :=
  woOf_any t p n K W hg (by omega) (by omega) (by omega)

set_option maxRecDepth 100000 in
set_option maxHeartbeats 16000000 in
theorem sLeftResidues (t p k : Int) (w : World) :
    Calls Tryd.prog 21 #[.agg #[.int .i64 t, .int .i64 p], .int .i64 k] w (RetInts (lrA t p k) (goodB t p && inB k 0 12) w) := by
  have HR := Lib.hid (fun w => rsPower_any t p k 12 w)
  cases ha : (goodB t p && inB k 0 12)
  · have HA : True := trivial
    have HY : Hid (lrA t p k = []) := Lib.hid (by rw [lrA, if_neg (by rw [ha]; simp)])
    rw [ha] at HR
    clear ha
    go_enter Tryd.func21, Tryd.ntmps21
    go_wp2_with fail
    refine (HR.out _).mono ?_
    rintro e w1 ⟨rfl, hb1⟩
    obtain ⟨c0, c1, hz, hb⟩ := map_block hb1
    clear hb1
    go_wp2_with fail
    go_ret2
    exact retI_none HY.out rfl hb
  · obtain ⟨hg, hk⟩ : goodB t p = true ∧ inB k 0 12 = true := by simpa using ha
    obtain ⟨K, rfl, hK⟩ := inB_nat hk
    have HA : True := trivial
    have HY : Hid (lrA t p K = lrL t p K 0 (2 ^ K)) := Lib.hid (by rw [lrA, if_pos ha]; rfl)
    obtain ⟨pw1, pw0⟩ := pow2_le (k := K) (by omega)
    have hwr : IntKind.i64.wrap ((2 : Int) ^ K) = 2 ^ K := by rw [IntKind.wrap_i64]; omega
    have hNN : ((2 : Int) ^ K) = ((2 ^ K : Nat) : Int) := by simp
    have hn4 := pow2N (K := K) (by omega)
    obtain ⟨n, hN⟩ : ∃ n : Nat, n = 2 ^ K := ⟨_, rfl⟩
    rw [← hN] at hNN HY hn4
    have hn : (n : Int) ≤ 5000 := by omega
    have HNN := Lib.hid hNN
    rw [hNN] at hwr
    have HWR := Lib.hid hwr
    have HW := Lib.hid (fun x (h0 : 0 ≤ x) (h1 : x ≤ 5000) w => left_word (t := t) (p := p) (n := x) hg K (by omega) h0 h1 w)
    have HF := Lib.hid (fun x w => rsFall_any t p x K w hg (by omega))
    have HLE := Lib.hid (fun j => lrL_len t p K 0 j)
    have HYES := Lib.hid (fun (j : Nat) (h : fa t p (0 + (j : Int)) K = 0) => lrL_yes h)
    have HNO := Lib.hid (fun (j : Nat) (h : fa t p (0 + (j : Int)) K ≠ 0) => lrL_no h)
    have HZ : Hid (∀ W B, IntsAt W B (.slice none 0 0) (lrL t p K 0 0)) := Lib.hid (fun W B => intsAt_nil _ _)
    have hK0 : 0 ≤ (K : Int) := by omega
    rw [ha] at HR
    clear ha hg hk pw0 pw1 hN hNN hn4
    go_enter Tryd.func21, Tryd.ntmps21
    go_wp2_with fail
    refine (HR.out _).mono ?_
    rintro e w1 ⟨rfl, hb1⟩
    obtain ⟨c0, c1, hz, hb⟩ := map_block hb1
    have HB := Lib.hid hb
    clear hb1 hb
    go_wp2_with fail
    go_loopw [6, 7] (fun v x wr => ∃ j : Nat, j ≤ n ∧ x = .int .i64 (0 + (j : Int)) ∧ IntsAt wr (w.heap.size + 1) v (lrL t p K 0 j) ∧ wr.cell? ⟨w.heap.size, 0, none⟩ = some (.int .i64 t) ∧ wr.cell? ⟨w.heap.size, 1, none⟩ = some (.int .i64 p) ∧ w.heap.size < wr.heap.size ∧ Below w.heap.size w wr) (fun _ x _ => n + 1 - ((RowKit.intOf x) - 0).toNat)
    case atStart => exact ⟨0, Nat.zero_le _, by simp, HZ.out _ _, c0, c1, hz, HB.out⟩
    case round =>
      clear c0 c1 HB hz
      obtain ⟨j, hj, rfl, hrow, c0, c1, hz, hbel⟩ := hrel
      have HO := Lib.hid hrow
      have HB := Lib.hid hbel
      clear hrow hbel
      by_cases hlt : j < n
      · have hle : (0 + (j : Int)) < (n : Int) := by omega
        have HWJ := Lib.hid (fun w => HW.out (0 + (j : Int)) (by omega) (by omega) w)
        have HFJ := Lib.hid (fun w => HF.out (0 + (j : Int)) w)
        have hlen := HLE.out j
        have HYJ := Lib.hid (HYES.out j)
        have HNJ := Lib.hid (HNO.out j)
        obtain ⟨y, hy⟩ : ∃ y, y = 0 + (j : Int) := ⟨_, rfl⟩
        rw [← hy] at HWJ HFJ HYJ HNJ hle ⊢
        generalize wby (wrd t p y K) = s at HWJ HFJ
        obtain ⟨l, hl⟩ : ∃ l, l = lrL t p K 0 j := ⟨_, rfl⟩
        rw [← hl] at HO HYJ HNJ hlen
        have hj2 : l.length + 1 ≤ maxLen := by unfold maxLen; omega
        have hll : l.length ≤ 5000 := by omega
        have hyb : 0 ≤ y := by omega
        have hyt : y ≤ 5001 := by omega
        have HYY : Hid (y + 1 = 0 + ((j + 1 : Nat) : Int)) := Lib.hid (by omega)
        have HLL := Lib.hid hll
        have HYB := Lib.hid (And.intro hyb hyt)
        have HY0 := Lib.hid hy
        clear hl hlen hy
        by_cases hfa : fa t p y K = 0
        · have HL2 := Lib.hid (HYJ.out hfa)
          rw [hfa] at HFJ
          clear hfa HYJ HNJ hwr
          have hwr := HWR.out
          have hp2 := HNN.out
          go_wp2_with fail
          clear hwr hp2
          clear hj2 hle hyb hyt hll
          go_region_with (first
            | (go_at_call 49; refine (HWJ.out _).mono ?_; rintro e w2 ⟨rfl, hb2⟩; have d0 := kept_cell hb2 hz c0; have d1 := kept_cell hb2 hz c1)
            | (go_at_call 48; refine (HFJ.out _).mono ?_; rintro e w3 ⟨rfl, hb3⟩))
          all_goals
            have hb4 : Below wr.heap.size wr w3 := by
              first
                | exact ((Below.refl _ wr).drew.trans (hb2.mono (by simp))).trans (hb3.mono (by have := hb2.size; simpa using this))
                | exact hb2.trans (hb3.mono hb2.size)
            have e0 := kept_cell hb4 hz c0
            have e1 := kept_cell hb4 hz c1
            have HO4 := Lib.hid (ownsRow_kept HO.out hb4)
            have HB4 := Lib.hid (HB.out.trans (hb4.mono (Nat.le_of_lt hz)))
            have hz4 := Nat.lt_of_lt_of_le hz hb4.size
            clear hb2 hb3 hb4 c0 c1 d0 d1
            obtain ⟨i0, hi, hi0, hi1, hi2⟩ := info_parts info3
            have hll := HLL.out
            have hj2 : l.length + 1 ≤ maxLen := by unfold maxLen; omega
            have hyb := HYB.out.1
            have hyt := HYB.out.2
            go_wp2_with (at_builtin; refine wpList_append_own _ rfl _ _ 36 rfl (w.heap.size + 1) 3 i0 (.int .i64 0) 1 8 Tryd.underlying36 hi hi0 hi1 hi2 rfl (by decide) _ _ _ rfl (HO4.out.alloc _) ⟨w3.heap.size, 0, none⟩ 1 1 [.int .i64 y] rfl rfl ?_ ?_ ?_ ?_ ?_ ?_; rotate_right; intro v' w5 hown hgrow _)
            · have hbg : Below (w.heap.size + 1) w3 w5 := ((Below.refl (w.heap.size + 1) w3).alloc hz4 _).grown hgrow (by simp; omega) (fun k e => (HO4.out.lt k e).1)
              refine ⟨⟨j + 1, hlt, by rw [HYY.out], ?_, (hbg.cell (p := ⟨w.heap.size, 0, none⟩) (Nat.lt_succ_self _)).trans e0, (hbg.cell (p := ⟨w.heap.size, 1, none⟩) (Nat.lt_succ_self _)).trans e1, Nat.lt_of_lt_of_le hz4 hbg.size, HB4.out.trans (hbg.mono (Nat.le_succ _))⟩, by have hy := HY0.out; simp [RowKit.intOf]; omega⟩
              unfold IntsAt
              rw [HL2.out, List.map_append, List.length_append]
              exact hown
            · exact fun j u hu => new_cell _ _ _ hu
            · simp [Value.oneCell']
            · exact hj2
            · omega
            · simp; omega
        · have HL2 := Lib.hid (HNJ.out hfa)
          have hA : (((fa t p y K : Nat) : Int) == 0) = false := by simpa using hfa
          have hA2 : ¬ (((fa t p y K : Nat) : Int) = 0) := by simpa using hfa
          generalize fa t p y K = A at HFJ hA hA2
          clear hfa HYJ HNJ hwr
          have hwr := HWR.out
          have hp2 := HNN.out
          go_wp2_with fail
          clear hwr hp2
          clear hj2 hle hyb hyt hll
          go_region_with (first
            | (go_at_call 49; refine (HWJ.out _).mono ?_; rintro e w2 ⟨rfl, hb2⟩; have d0 := kept_cell hb2 hz c0; have d1 := kept_cell hb2 hz c1)
            | (go_at_call 48; refine (HFJ.out _).mono ?_; rintro e w3 ⟨rfl, hb3⟩))
          all_goals
            have hb4 : Below wr.heap.size wr w3 := by
              first
                | exact ((Below.refl _ wr).drew.trans (hb2.mono (by simp))).trans (hb3.mono (by have := hb2.size; simpa using this))
                | exact hb2.trans (hb3.mono hb2.size)
            have e0 := kept_cell hb4 hz c0
            have e1 := kept_cell hb4 hz c1
            have HO4 := Lib.hid (ownsRow_kept HO.out hb4)
            have HB4 := Lib.hid (HB.out.trans (hb4.mono (Nat.le_of_lt hz)))
            have hz4 := Nat.lt_of_lt_of_le hz hb4.size
            clear hb2 hb3 hb4 c0 c1 d0 d1
            have hyb := HYB.out.1
            have hyt := HYB.out.2
            go_wp2_with fail
            exact ⟨⟨j + 1, hlt, by rw [HYY.out], by rw [HL2.out]; exact HO4.out, e0, e1, hz4, HB4.out⟩, by have hy := HY0.out; simp [RowKit.intOf]; omega⟩
      · have HJ : Hid (j = n) := Lib.hid (by omega)
        have hle : ¬ ((0 + (j : Int)) < (n : Int)) := by omega
        have hp2 := HNN.out
        clear hlt hj
        go_wp2_with fail
        go_ret2
        rw [HY.out]
        have h := HO.out
        rw [HJ.out] at h
        exact ⟨_, rfl, ownsRow_base h (by omega), HB.out⟩
end Go.Proofs.YtencblbkbalmcaaDoor
