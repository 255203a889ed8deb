/-
  'reFalls' of the model; 'StepsList', 'FallsOf' of both.
-/
import Derived.Test.YtponmblponfdaaaListI
import Derived.RangeFuncBox
namespace Go.Proofs.Ytponmblponfdaaa
open Go.RowKit
set_option linter.unusedVariables false

/-- A number's fall, or -1. -/
def fallN (t p n : Int) : Int := hvN (fbl t p) n
theorem fbl_pos {t p n : Int} (h : (fbl t p n).2 = true) : 1 ≤ (fbl t p n).1 ∧ (fbl t p n).1 ≤ 1000 := by
  unfold fbl hit at h ⊢
  split at h
  · rename_i x hx
    have h1 := List.find?_some hx
    have h2 := List.mem_of_find?_eq_some hx
    unfold seqOf at h2
    split at h2
    · obtain ⟨j, hj, rfl⟩ := mem_upto h2
      have hj2 := (lt_cnt _ _ _ _).1 hj
      simp only [decide_eq_true_eq] at h1
      have h0 : j ≠ 0 := by rintro rfl; exact absurd h1 (by show ¬ n < n; omega)
      dsimp only
      omega
    · cases h2
  · cases h
theorem fallN_bound (t p n : Int) : -1 ≤ fallN t p n ∧ fallN t p n ≤ 1000 ∧ (fallN t p n = -1 ∨ 1 ≤ fallN t p n) := by
  unfold fallN hvN
  split
  · rename_i h
    have := fbl_pos h
    omega
  · omega
theorem hvN_need (t p n : Int) : hvN (fun n => (ndA t p n, (cyA t p n).isSome)) n = needN t p n := by
  unfold hvN ndA
  cases h : cyA t p n with
  | none => simp [h, needN_none h]
  | some x => simp [h]

set_option maxRecDepth 100000 in
set_option maxHeartbeats 4000000 in
theorem reFalls_any (t p : Int) (K : Nat) (w : World) (hg : goodB t p = true) (hK : K ≤ 300) :
    Calls Try.prog 54 #[.agg #[.int .i64 t, .int .i64 p], .int .i64 (K : Int)] w (RetList (tabL (fallN t p) K) w) := by
  obtain ⟨i0, hi, hi0, hi1, hi2⟩ := info_parts info3
  have HR := Lib.hid (fun n w => sFirstBelow t p n w)
  have HB0 := Lib.hid ((Below.refl _ w).alloc (Nat.le_refl _) (.cells #[.int .i64 t, .int .i64 p] 25))
  have hK2 : (K : Int) ≤ 300 := by omega
  clear hg
  go_enter Try.func54, Try.ntmps54
  go_wp2_with fail
  go_loopw [5, 6] (fun v i wr => ∃ j : Nat, j ≤ K ∧ i = .int .i64 ((j : Int) + 1) ∧ wr.ownsRow (w.heap.size + 1) 3 1 v j ((tabL (fallN t p) j).map (Value.int .i64)) ∧ wr.cell? ⟨w.heap.size, 0, none⟩ = some (.int .i64 t) ∧ wr.cell? ⟨w.heap.size, 1, none⟩ = some (.int .i64 p) ∧ w.heap.size < wr.heap.size ∧ Below w.heap.size w wr) (fun _ i _ => K + 1 - (RowKit.intOf i).toNat)
  case atStart => exact ⟨0, Nat.zero_le _, rfl, World.ownsRow_nil _ _ _ _, by go_simp, by go_simp, by simp, HB0.out⟩
  case round =>
    obtain ⟨j, hj, rfl, hown, c0, c1, hz, hbel⟩ := hrel
    have HO := Lib.hid hown
    have HB := Lib.hid hbel
    clear hown hbel
    by_cases hlt : j < K
    · have hlt2 : (j : Int) + 1 ≤ (K : Int) := by omega
      have HRJ := Lib.hid (fun w => HR.out ((j : Int) + 1) w)
      have HTS := Lib.hid (tabL_succ (fallN t p) j)
      have hj3 : j + 1 ≤ maxLen := by unfold maxLen; omega
      cases hok : (fbl t p ((j : Int) + 1)).2
      · have HTS2 : Hid (tabL (fallN t p) (j + 1) = tabL (fallN t p) j ++ [-1]) := Lib.hid (by rw [HTS.out, fallN, hvN, hok]; rfl)
        rw [hok] at HRJ
        obtain ⟨x, hx⟩ : ∃ x, (-1 : Int) = x := ⟨_, rfl⟩
        rw [hx] at HTS2
        subst hx; clear hok HTS
        go_wp2_with fail
        refine (HRJ.out _).mono ?_
        rintro e w2 ⟨rfl, hb2⟩
        have d0 := kept_cell hb2 hz c0
        have d1 := kept_cell hb2 hz c1
        have hz2 := Nat.lt_of_lt_of_le hz hb2.size
        have HB2 := Lib.hid (HB.out.trans (hb2.mono (Nat.le_of_lt hz)))
        have HO2 := Lib.hid (ownsRow_kept HO.out hb2)
        clear hb2 c0 c1 HO
        go_wp2_with (at_builtin; refine wpList_append_own _ rfl _ _ 31 rfl (w.heap.size + 1) 3 i0 (.int .i64 0) 1 8 Try.underlying31 hi hi0 hi1 hi2 rfl (by decide) _ _ _ rfl (HO2.out.alloc _) ⟨w2.heap.size, 0, none⟩ 1 1 [.int .i64 (-1)] rfl rfl (fun j u hu => new_cell _ _ _ hu) (by simp [Value.oneCell']) hj3 (by omega) (by simp; omega) ?_; intro v5 w5 hown5 hgrow5 _; have hbg : Below (w.heap.size + 1) w2 w5 := ((Below.refl (w.heap.size + 1) w2).alloc (by omega) _).grown hgrow5 (by simp; omega) (fun k e => (HO2.out.lt k e).1); have e0 := (hbg.cell (p := ⟨w.heap.size, 0, none⟩) (Nat.lt_succ_self _)).trans d0; have e1 := (hbg.cell (p := ⟨w.heap.size, 1, none⟩) (Nat.lt_succ_self _)).trans d1; have hz5 : w.heap.size < w5.heap.size := Nat.lt_of_lt_of_le hz2 hbg.size; have HB5 := Lib.hid (HB2.out.trans (hbg.mono (Nat.le_succ _))); have HO5 := Lib.hid hown5; clear hown5 hgrow5 hbg d0 d1)
        refine ⟨⟨j + 1, hlt, by go_num, ?_, e0, e1, hz5, HB5.out⟩, by simp [RowKit.intOf]; omega⟩
        rw [HTS2.out, List.map_append]
        exact HO5.out
      · have HTS2 : Hid (tabL (fallN t p) (j + 1) = tabL (fallN t p) j ++ [(fbl t p ((j : Int) + 1)).1]) := Lib.hid (by rw [HTS.out, fallN, hvN, hok]; rfl)
        rw [hok] at HRJ
        obtain ⟨x, hx⟩ : ∃ x, (fbl t p ((j : Int) + 1)).1 = x := ⟨_, rfl⟩
        rw [hx] at HRJ HTS2
        clear hx hok HTS
        go_wp2_with fail
        refine (HRJ.out _).mono ?_
        rintro e w2 ⟨rfl, hb2⟩
        have d0 := kept_cell hb2 hz c0
        have d1 := kept_cell hb2 hz c1
        have hz2 := Nat.lt_of_lt_of_le hz hb2.size
        have HB2 := Lib.hid (HB.out.trans (hb2.mono (Nat.le_of_lt hz)))
        have HO2 := Lib.hid (ownsRow_kept HO.out hb2)
        clear hb2 c0 c1 HO
        go_wp2_with (at_builtin; refine wpList_append_own _ rfl _ _ 31 rfl (w.heap.size + 1) 3 i0 (.int .i64 0) 1 8 Try.underlying31 hi hi0 hi1 hi2 rfl (by decide) _ _ _ rfl (HO2.out.alloc _) ⟨w2.heap.size, 0, none⟩ 1 1 [.int .i64 x] rfl rfl (fun j u hu => new_cell _ _ _ hu) (by simp [Value.oneCell']) hj3 (by omega) (by simp; omega) ?_; intro v5 w5 hown5 hgrow5 _; have hbg : Below (w.heap.size + 1) w2 w5 := ((Below.refl (w.heap.size + 1) w2).alloc (by omega) _).grown hgrow5 (by simp; omega) (fun k e => (HO2.out.lt k e).1); have e0 := (hbg.cell (p := ⟨w.heap.size, 0, none⟩) (Nat.lt_succ_self _)).trans d0; have e1 := (hbg.cell (p := ⟨w.heap.size, 1, none⟩) (Nat.lt_succ_self _)).trans d1; have hz5 : w.heap.size < w5.heap.size := Nat.lt_of_lt_of_le hz2 hbg.size; have HB5 := Lib.hid (HB2.out.trans (hbg.mono (Nat.le_succ _))); have HO5 := Lib.hid hown5; clear hown5 hgrow5 hbg d0 d1)
        refine ⟨⟨j + 1, hlt, by go_num, ?_, e0, e1, hz5, HB5.out⟩, by simp [RowKit.intOf]; omega⟩
        rw [HTS2.out, List.map_append]
        exact HO5.out
    · obtain rfl : j = K := by omega
      have hlt2 : ¬ ((j : Int) + 1 ≤ (j : Int)) := by omega
      have HFIN : Hid (∀ v, wr.ownsRow (w.heap.size + 1) 3 1 v j ((tabL (fallN t p) j).map (Value.int .i64)) → IntsAt wr w.heap.size v (tabL (fallN t p) j)) := Lib.hid (fun v h => by
        rw [IntsAt, tabL_length]
        exact ownsRow_base h (Nat.le_succ _))
      go_wp2_with fail
      go_ret
      exact ⟨_, rfl, HFIN.out _ HO.out, HB.out⟩

set_option maxHeartbeats 2000000 in
theorem sStepsList (t p k : Int) (w : World) :
    Calls Try.prog 9 #[.agg #[.int .i64 t, .int .i64 p], .int .i64 k] w (RetInts (tabA needN t p k) (askL t p k) w) := by
  have HM := Lib.hid (fun w => reLimit_any t p k w)
  cases hask : askL t p k
  · have HY : Hid (tabA needN t p k = []) := Lib.hid (tabA_no hask)
    rw [hask] at HM
    clear hask
    go_enter Try.func9, Try.ntmps9
    go_wp2_with fail
    refine (HM.out _).mono ?_
    rintro e w1 ⟨rfl, hb1⟩
    obtain ⟨c0, c1, hz, hb⟩ := map_block hb1
    clear hb1
    go_wp2_with fail
    go_ret2
    exact retI_none HY.out rfl hb
  · obtain ⟨K, rfl, _, hK, hg⟩ := askL_yes hask
    have HY : Hid (tabA needN t p K = tabL (needN t p) K) := Lib.hid (tabA_yes hask)
    have HL := Lib.hid (fun w => reList_any t p K w hg hK)
    rw [hask] at HM
    clear hask hg
    go_enter Try.func9, Try.ntmps9
    go_wp2_with fail
    refine (HM.out _).mono ?_
    rintro e w1 ⟨rfl, hb1⟩
    obtain ⟨c0, c1, hz, hb⟩ := map_block hb1
    clear hb1
    go_wp2_with fail
    refine (HL.out _).mono ?_
    rintro e w2 ⟨v, rfl, hrow, hb2⟩
    have HB := Lib.hid (hb.trans (hb2.mono (Nat.le_of_lt hz)))
    have HR : Hid (IntsAt w2 w.heap.size v (tabA needN t p K)) := Lib.hid (by rw [HY.out]; exact ownsRow_base hrow (Nat.le_of_lt hz))
    clear hb2 hb c0 c1 hrow
    go_wp2_with fail
    go_ret2
    exact ⟨v, rfl, HR.out, HB.out⟩

set_option maxHeartbeats 2000000 in
theorem sFallsOf (t p k : Int) (w : World) :
    Calls Try.prog 30 #[.agg #[.int .i64 t, .int .i64 p], .int .i64 k] w (RetInts (tabA fallN t p k) (askL t p k) w) := by
  have HM := Lib.hid (fun w => reLimit_any t p k w)
  cases hask : askL t p k
  · have HY : Hid (tabA fallN t p k = []) := Lib.hid (tabA_no hask)
    rw [hask] at HM
    clear hask
    go_enter Try.func30, Try.ntmps30
    go_wp2_with fail
    refine (HM.out _).mono ?_
    rintro e w1 ⟨rfl, hb1⟩
    obtain ⟨c0, c1, hz, hb⟩ := map_block hb1
    clear hb1
    go_wp2_with fail
    go_ret2
    exact retI_none HY.out rfl hb
  · obtain ⟨K, rfl, _, hK, hg⟩ := askL_yes hask
    have HY : Hid (tabA fallN t p K = tabL (fallN t p) K) := Lib.hid (tabA_yes hask)
    have HL := Lib.hid (fun w => reFalls_any t p K w hg hK)
    rw [hask] at HM
    clear hask hg
    go_enter Try.func30, Try.ntmps30
    go_wp2_with fail
    refine (HM.out _).mono ?_
    rintro e w1 ⟨rfl, hb1⟩
    obtain ⟨c0, c1, hz, hb⟩ := map_block hb1
    clear hb1
    go_wp2_with fail
    refine (HL.out _).mono ?_
    rintro e w2 ⟨v, rfl, hrow, hb2⟩
    have HB := Lib.hid (hb.trans (hb2.mono (Nat.le_of_lt hz)))
    have HR : Hid (IntsAt w2 w.heap.size v (tabA fallN t p K)) := Lib.hid (by rw [HY.out]; exact ownsRow_base hrow (Nat.le_of_lt hz))
    clear hb2 hb c0 c1 hrow
    go_wp2_with fail
    go_ret2
    exact ⟨v, rfl, HR.out, HB.out⟩

set_option maxHeartbeats 2000000 in
theorem iStepsList (t p k : Int) (w : World) :
    Calls Try.prog 8 #[.agg #[.int .i64 t, .int .i64 p], .int .i64 k] w (RetInts (tabA needN t p k) (askL t p k) w) := by
  have HL : Hid (∀ w, Calls Try.prog 41 #[.agg #[.int .i64 t, .int .i64 p], .int .i64 k, .func (.func 22) #[] #[]] w (RetInts (tabA needN t p k) (askL t p k) w)) := Lib.hid (fun w => by
    have := listUpTo_any 22 (fun n => (ndA t p n, (cyA t p n).isSome)) t p k w (enters_of Try.func22 (by kernel_rfl) rfl) (fun n w _ => iStepsNeeded t p n w)
    have e : tabA (fun _ _ => hvN (fun n => (ndA t p n, (cyA t p n).isSome))) t p k = tabA needN t p k := by
      unfold tabA
      rw [show hvN (fun n => (ndA t p n, (cyA t p n).isSome)) = needN t p from funext fun n => hvN_need t p n]
    unfold RetTab at this
    rw [e] at this
    exact this)
  have HB0 := Lib.hid ((Below.refl _ w).alloc (Nat.le_refl _) (.cells #[.int .i64 t, .int .i64 p] 25))
  go_enter Try.func8, Try.ntmps8
  go_wp2_with fail
  refine (HL.out _).mono ?_
  rintro e w1 ⟨v, rfl, hrow, hb1⟩
  have HB := Lib.hid (HB0.out.trans (hb1.mono (by simp)))
  have HR : Hid (IntsAt w1 w.heap.size v (tabA needN t p k)) := Lib.hid (ownsRow_base hrow (by simp))
  clear hb1 hrow
  go_wp2_with fail
  go_ret2
  exact ⟨v, rfl, HR.out, HB.out⟩

set_option maxHeartbeats 2000000 in
theorem iFallsOf (t p k : Int) (w : World) :
    Calls Try.prog 29 #[.agg #[.int .i64 t, .int .i64 p], .int .i64 k] w (RetInts (tabA fallN t p k) (askL t p k) w) := by
  have HL : Hid (∀ w, Calls Try.prog 41 #[.agg #[.int .i64 t, .int .i64 p], .int .i64 k, .func (.func 34) #[] #[]] w (RetInts (tabA fallN t p k) (askL t p k) w)) := Lib.hid (fun w => by
    have := listUpTo_any 34 (fbl t p) t p k w (enters_of Try.func34 (by kernel_rfl) rfl) (fun n w _ => iFirstBelow t p n w)
    have e : tabA (fun _ _ => hvN (fbl t p)) t p k = tabA fallN t p k := by
      unfold tabA
      rw [show hvN (fbl t p) = fallN t p from funext fun n => rfl]
    unfold RetTab at this
    rw [e] at this
    exact this)
  have HB0 := Lib.hid ((Below.refl _ w).alloc (Nat.le_refl _) (.cells #[.int .i64 t, .int .i64 p] 25))
  go_enter Try.func29, Try.ntmps29
  go_wp2_with fail
  refine (HL.out _).mono ?_
  rintro e w1 ⟨v, rfl, hrow, hb1⟩
  have HB := Lib.hid (HB0.out.trans (hb1.mono (by simp)))
  have HR : Hid (IntsAt w1 w.heap.size v (tabA fallN t p k)) := Lib.hid (ownsRow_base hrow (by simp))
  clear hb1 hrow
  go_wp2_with fail
  go_ret2
  exact ⟨v, rfl, HR.out, HB.out⟩
end Go.Proofs.Ytponmblponfdaaa
