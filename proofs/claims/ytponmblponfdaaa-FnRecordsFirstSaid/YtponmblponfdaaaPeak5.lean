/-
  WHOLE PATHS AND THEIR PEAKS: 'wholePath', 'wholePeak' of the program, 'rePeaks' of the model.
-/
import Derived.Test.YtponmblponfdaaaListI
import Derived.Test.YtponmblponfdaaaMost
namespace Go.Proofs.Ytponmblponfdaaa
open Go.RowKit Go.Shelf
set_option linter.unusedVariables false

theorem aft_fnd {t p n : Int} {K i : Nat} (h : cyA t p n = some (K, i)) {j : Nat} (hj : j ≤ K) : aft t p (nx t p) n (j : Int) = (itr (nx t p) j n, true) := by
  obtain ⟨hg, _, hF⟩ := cyA_some h
  have hn : numB n = true := allB_at (f := nx t p) (n := n) (j := 0) (k := K + 1) (by omega) hF.all
  have hle := hF.le
  unfold aft
  rw [if_pos]
  · rfl
  · refine ⟨?_, allB_le (by omega) hF.all⟩
    simp only [askB, inB, Bool.and_eq_true, decide_eq_true_eq]
    exact ⟨⟨hg, hn⟩, by omega⟩
/-- What wholePath hands back. -/
def RetWhole (t p n : Int) (w : World) (e : Ending) (w' : World) : Prop :=
  Below w.heap.size w w' ∧ ((∃ K i g cap, cyA t p n = some (K, i) ∧ e = .returned (.tuple #[.slice (some ⟨g, 0, none⟩) (K + 1) cap, .bool true]) ∧ PathAt w' w.heap.size g cap (nx t p) n K) ∨ (cyA t p n = none ∧ e = .returned (.tuple #[.slice none 0 0, .bool false])))

set_option maxRecDepth 100000 in
set_option maxHeartbeats 2000000 in
theorem wholePath_any (t p n : Int) (w : World) :
    Calls Try.prog 61 #[.agg #[.int .i64 t, .int .i64 p], .int .i64 n] w (RetWhole t p n w) := by
  have HL := Lib.hid (fun w => iLeadOf t p n w)
  have HB0 := Lib.hid ((Below.refl _ w).alloc (Nat.le_refl _) (.cells #[.int .i64 t, .int .i64 p] 25))
  cases ho : cyA t p n with
  | none =>
    have HO := Lib.hid ho
    rw [ldA_none ho, ho] at HL
    clear ho
    go_enter Try.func61, Try.ntmps61
    go_wp2_with fail
    refine (HL.out _).mono ?_
    rintro e w1 ⟨rfl, hb1⟩
    have HB := Lib.hid (HB0.out.trans (hb1.mono (by simp)))
    clear hb1
    dsimp only [Option.isSome]
    go_wp2_with fail
    go_ret2
    exact ⟨HB.out, .inr ⟨HO.out, rfl⟩⟩
  | some x =>
    obtain ⟨K, i⟩ := x
    have HO := Lib.hid ho
    obtain ⟨hg, _, hF⟩ := cyA_some ho
    have hlt := hF.lt
    have hle := hF.le
    rw [ldA_some ho, ho] at HL
    have hP : Hid (∀ w, Calls Try.prog 75 #[.agg #[.int .i64 t, .int .i64 p, .int .i64 n], .int .i64 (K : Int)] w (YesPath (nx t p) n K w)) := Lib.hid (fun w => path_yes t p n K w (by rw [aft_fnd ho (Nat.le_refl _)]))
    have hsum : (i : Int) + ((K - i : Nat) : Int) = (K : Int) := by omega
    obtain ⟨m, hm⟩ : ∃ m, K - i = m := ⟨_, rfl⟩
    rw [hm] at hsum HL
    have hi1 : (i : Int) ≤ 1000 := by omega
    have hm1 : (m : Int) ≤ 1000 := by omega
    clear ho hF hg hm
    go_enter Try.func61, Try.ntmps61
    go_wp2_with fail
    refine (HL.out _).mono ?_
    rintro e w1 ⟨rfl, hb1⟩
    have HB := Lib.hid (HB0.out.trans (hb1.mono (by simp)))
    have d0 : w1.cell? ⟨w.heap.size, 0, none⟩ = some (.int .i64 t) := (hb1.cell (p := ⟨w.heap.size, 0, none⟩) (by simp)).trans (by go_simp)
    have d1 : w1.cell? ⟨w.heap.size, 1, none⟩ = some (.int .i64 p) := (hb1.cell (p := ⟨w.heap.size, 1, none⟩) (by simp)).trans (by go_simp)
    clear hb1
    dsimp only [Option.isSome]
    go_wp2_with fail
    try rw [hsum]
    refine (hP.out _).mono ?_
    rintro e w2 ⟨g, cap, rfl, hpa, hb2⟩
    have HB2 := Lib.hid (HB.out.trans (hb2.mono HB.out.size))
    have HPA : Hid (PathAt w2 w.heap.size g cap (nx t p) n K) := Lib.hid (ownsRow_base hpa HB.out.size)
    clear hb2 hpa d0 d1
    go_wp2_with fail
    go_ret2
    exact ⟨HB2.out, .inl ⟨K, i, g, cap, HO.out, rfl, HPA.out⟩⟩

/-- A whole path's peak, or -1. -/
def peakN (t p n : Int) : Int := match cyA t p n with
  | some (K, _) => best true (fun j => itr (nx t p) j n) K
  | none => -1
theorem peakN_some {t p n : Int} {K i : Nat} (h : cyA t p n = some (K, i)) : peakN t p n = best true (fun j => itr (nx t p) j n) K := by rw [peakN, h]
theorem peakN_none {t p n : Int} (h : cyA t p n = none) : peakN t p n = -1 := by rw [peakN, h]
def peA (t p n : Int) : Int := if (cyA t p n).isSome = true then peakN t p n else 0
theorem hvN_peak (t p n : Int) : hvN (fun n => (peA t p n, (cyA t p n).isSome)) n = peakN t p n := by
  unfold hvN peA
  cases h : cyA t p n with
  | none => simp [h, peakN_none h]
  | some x => simp [h]
theorem best_ge (a : Nat → Int) (k : Nat) {j : Nat} (h : j ≤ k) : a j ≤ best true a k := by
  have := (far_best true a k).1 j h
  unfold best
  simp [bet] at this
  omega
/-- The number that comes again adds nothing. -/
theorem peak_short {t p n : Int} {K i : Nat} (h : cyA t p n = some (K, i)) : best true (fun j => itr (nx t p) j n) (K - 1) = peakN t p n := by
  have hF := (cyA_some h).2.2
  have hlt := hF.lt
  obtain ⟨k, rfl⟩ : ∃ k, K = k + 1 := ⟨K - 1, by omega⟩
  rw [peakN_some h, Nat.add_sub_cancel, best_max, if_neg]
  have h2 : itr (nx t p) i n ≤ best true (fun j => itr (nx t p) j n) k := best_ge (fun j => itr (nx t p) j n) k (by omega)
  rw [hF.eq] at h2
  exact Int.not_lt.2 h2
theorem peakN_bound (t p n : Int) (h1 : 1 ≤ n) : -1 ≤ peakN t p n ∧ peakN t p n ≤ 1000000000000 := by
  cases h : cyA t p n with
  | none => rw [peakN_none h]; omega
  | some x =>
    obtain ⟨K, i⟩ := x
    have hF := (cyA_some h).2.2
    rw [peakN_some h]
    have h2 := best_ge (fun j => itr (nx t p) j n) K (j := 0) (Nat.zero_le _)
    have h3 := far_le true (fun j => itr (nx t p) j n) K
    have h4 := numB_iff.1 (allB_at (f := nx t p) (n := n) (j := far true (fun j => itr (nx t p) j n) K) (k := K + 1) (by omega) hF.all)
    unfold best at h2 ⊢
    dsimp only [itr] at h2 h4 ⊢
    exact ⟨Int.le_trans (by omega) h2, h4.2⟩

set_option maxRecDepth 100000 in
set_option maxHeartbeats 2000000 in
theorem wholePeak_any (t p n : Int) (w : World) :
    Calls Try.prog 44 #[.agg #[.int .i64 t, .int .i64 p], .int .i64 n] w fun e w' => e = .returned (.tuple #[.int .i64 (peA t p n), .bool (cyA t p n).isSome]) ∧ Below w.heap.size w w' := by
  have HW := Lib.hid (fun w => wholePath_any t p n w)
  have HB0 := Lib.hid ((Below.refl _ w).alloc (Nat.le_refl _) (.cells #[.int .i64 t, .int .i64 p] 25))
  go_enter Try.func44, Try.ntmps44
  go_wp2_with fail
  refine (HW.out _).mono ?_
  rintro e w1 ⟨hb1, ⟨K, i, g, cap, ho, rfl, hpa⟩ | ⟨ho, rfl⟩⟩
  · have HB := Lib.hid (HB0.out.trans (hb1.mono (by simp)))
    have hK := (cyA_some ho).2.2.le
    have HY : Hid (peA t p n = best true (fun j => itr (nx t p) j n) K ∧ (cyA t p n).isSome = true) := Lib.hid ⟨by rw [peA, if_pos (by rw [ho]; rfl), peakN_some ho], by rw [ho]; rfl⟩
    have HM := Lib.hid (max_any (fun j => itr (nx t p) j n) K g cap w1 hK (fun j hj => hpa.cell hj))
    clear hb1 ho hpa
    go_wp2_with fail
    refine HM.out.mono ?_
    rintro e w2 ⟨rfl, rfl⟩
    go_wp2_with fail
    go_ret2
    exact ⟨by rw [HY.out.1, HY.out.2]; rfl, HB.out⟩
  · have HB := Lib.hid (HB0.out.trans (hb1.mono (by simp)))
    have HY : Hid (peA t p n = 0 ∧ (cyA t p n).isSome = false) := Lib.hid ⟨by rw [peA, ho]; rfl, by rw [ho]; rfl⟩
    clear hb1 ho
    go_wp2_with fail
    go_ret2
    exact ⟨by rw [HY.out.1, HY.out.2]; rfl, HB.out⟩

theorem iPeakList (t p k : Int) (w : World) : Calls Try.prog 41 #[.agg #[.int .i64 t, .int .i64 p], .int .i64 k, .func (.func 44) #[] #[]] w (RetInts (tabA peakN t p k) (askL t p k) w) := by
  have := listUpTo_any 44 (fun n => (peA t p n, (cyA t p n).isSome)) t p k w (enters_of Try.func44 (by kernel_rfl) rfl) (fun n w _ => wholePeak_any t p n w)
  have e : tabA (fun _ _ => hvN (fun n => (peA t p n, (cyA t p n).isSome))) t p k = tabA peakN t p k := by
    unfold tabA
    rw [show hvN (fun n => (peA t p n, (cyA t p n).isSome)) = peakN t p from funext fun n => hvN_peak t p n]
  unfold RetTab at this
  rw [e] at this
  exact this
theorem bnd_peak (t p k : Int) : Bnd (tabA peakN t p k) := by
  intro j hj
  cases ha : askL t p k
  · rw [tabA_no ha] at hj; cases hj
  · obtain ⟨K, rfl, _, hK, hg⟩ := askL_yes ha
    rw [tabA_yes ha, tabL_length] at hj
    unfold atL
    rw [tabA_yes ha, tabL_at hj]
    exact peakN_bound _ _ _ (by omega)

set_option maxRecDepth 100000 in
set_option maxHeartbeats 4000000 in
theorem rePeaks_any (t p : Int) (K : Nat) (w : World) (hg : goodB t p = true) (hK : K ≤ 300) :
    Calls Try.prog 45 #[.agg #[.int .i64 t, .int .i64 p], .int .i64 (K : Int)] w (RetList (tabL (peakN t p) K) w) := by
  obtain ⟨i0, hi, hi0, hi1, hi2⟩ := info_parts info3
  have HS := Lib.hid (fun n w => cyFind_any t p n w hg)
  have HCG := Lib.hid (fun n => cyA_good (n := n) hg)
  have HB0 := Lib.hid ((Below.refl _ w).alloc (Nat.le_refl _) (.cells #[.int .i64 t, .int .i64 p] 25))
  have hK2 : (K : Int) ≤ 300 := by omega
  clear hg
  go_enter Try.func45, Try.ntmps45
  go_wp2_with fail
  go_loopw [5, 6] (fun v i wr => ∃ j : Nat, j ≤ K ∧ i = .int .i64 ((j : Int) + 1) ∧ wr.ownsRow (w.heap.size + 1) 3 1 v j ((tabL (peakN t p) j).map (Value.int .i64)) ∧ wr.cell? ⟨w.heap.size, 0, none⟩ = some (.int .i64 t) ∧ wr.cell? ⟨w.heap.size, 1, none⟩ = some (.int .i64 p) ∧ w.heap.size < wr.heap.size ∧ Below w.heap.size w wr) (fun _ i _ => K + 1 - (RowKit.intOf i).toNat)
  case atStart => exact ⟨0, Nat.zero_le _, rfl, World.ownsRow_nil _ _ _ _, by go_simp, by go_simp, by simp, HB0.out⟩
  case round =>
    obtain ⟨j, hj, rfl, hown, c0, c1, hz, hbel⟩ := hrel
    have HO := Lib.hid hown
    have HB := Lib.hid hbel
    clear hown hbel
    by_cases hlt : j < K
    · have hlt2 : (j : Int) + 1 ≤ (K : Int) := by omega
      have HSJ := Lib.hid (fun w => HS.out ((j : Int) + 1) w)
      rw [← HCG.out] at HSJ
      have HTS := Lib.hid (tabL_succ (peakN t p) j)
      have hj3 : j + 1 ≤ maxLen := by unfold maxLen; omega
      go_wp2_with fail
      refine (HSJ.out _).mono ?_
      rintro e w2 (⟨K2, i2, v2, ho, rfl, hrow, hb2⟩ | ⟨ho, rfl, hb2⟩)
      · have d0 := kept_cell hb2 hz c0
        have d1 := kept_cell hb2 hz c1
        have hz2 := Nat.lt_of_lt_of_le hz hb2.size
        have HB2 := Lib.hid (HB.out.trans (hb2.mono (Nat.le_of_lt hz)))
        have HO2 := Lib.hid (ownsRow_kept HO.out hb2)
        have hF := (cyA_some ho).2.2
        have hlt3 := hF.lt
        have hle3 := hF.le
        obtain ⟨k3, hk3⟩ : ∃ k3, K2 = k3 + 1 := ⟨K2 - 1, by omega⟩
        have hps := peak_short ho
        rw [hk3, Nat.add_sub_cancel] at hps
        obtain ⟨g, cap, rfl, _, hg2, _, _, hir⟩ := ints_row hrow (by rw [wayL_length]; omega)
        rw [wayL_length]
        subst hk3
        have HFA := Lib.hid (mpFar_list (fun j' => itr (nx t p) j' ((j : Int) + 1)) k3 g cap w2 (by omega) (fun j' hj' => by
          have := (hir j' (by rw [wayL_length]; omega)).1
          rw [wayL_at (by omega)] at this
          exact this))
        have hfl := far_le true (fun j' => itr (nx t p) j' ((j : Int) + 1)) k3
        have q := (hir (far true (fun j' => itr (nx t p) j' ((j : Int) + 1)) k3) (by rw [wayL_length]; omega)).1
        rw [wayL_at (by omega), show itr (nx t p) (far true (fun j' => itr (nx t p) j' ((j : Int) + 1)) k3) ((j : Int) + 1) = peakN t p ((j : Int) + 1) from hps] at q
        obtain ⟨F, hFF⟩ : ∃ F, far true (fun j' => itr (nx t p) j' ((j : Int) + 1)) k3 = F := ⟨_, rfl⟩
        rw [hFF] at HFA hfl q
        obtain ⟨x, hx⟩ : ∃ x, peakN t p ((j : Int) + 1) = x := ⟨_, rfl⟩
        rw [hx] at HTS q
        have hF2 : (F : Int) < (k3 : Int) + 1 := by omega
        have hk4 : (k3 : Int) ≤ 1000 := by omega
        clear hb2 c0 c1 HO ho hrow hF hir hps hFF hx
        go_wp2_with (first
          | (go_at_call 60; refine HFA.out.mono ?_; rintro e w' ⟨rfl, rfl⟩)
          | (at_builtin; refine wpList_append_own _ rfl _ _ 31 rfl (w.heap.size + 1) 3 i0 (.int .i64 0) 1 8 Try.underlying31 hi hi0 hi1 hi2 rfl (by decide) _ _ _ rfl (HO2.out.alloc _) ⟨w2.heap.size, 0, none⟩ 1 1 [.int .i64 x] rfl rfl (fun j u hu => new_cell _ _ _ hu) (by simp [Value.oneCell']) hj3 (by omega) (by simp; omega) ?_; intro v5 w5 hown5 hgrow5 _; have hbg : Below (w.heap.size + 1) w2 w5 := ((Below.refl (w.heap.size + 1) w2).alloc (by omega) _).grown hgrow5 (by simp; omega) (fun k e => (HO2.out.lt k e).1); have e0 := (hbg.cell (p := ⟨w.heap.size, 0, none⟩) (Nat.lt_succ_self _)).trans d0; have e1 := (hbg.cell (p := ⟨w.heap.size, 1, none⟩) (Nat.lt_succ_self _)).trans d1; have hz5 : w.heap.size < w5.heap.size := Nat.lt_of_lt_of_le hz2 hbg.size; have HB5 := Lib.hid (HB2.out.trans (hbg.mono (Nat.le_succ _))); have HO5 := Lib.hid hown5; clear hown5 hgrow5 hbg d0 d1))
        refine ⟨⟨j + 1, hlt, by go_num, ?_, e0, e1, hz5, HB5.out⟩, by simp [RowKit.intOf]; omega⟩
        rw [HTS.out, List.map_append]
        exact HO5.out
      · have d0 := kept_cell hb2 hz c0
        have d1 := kept_cell hb2 hz c1
        have hz2 := Nat.lt_of_lt_of_le hz hb2.size
        have HB2 := Lib.hid (HB.out.trans (hb2.mono (Nat.le_of_lt hz)))
        have HO2 := Lib.hid (ownsRow_kept HO.out hb2)
        rw [peakN_none ho] at HTS
        clear hb2 c0 c1 HO ho
        go_wp2_with (at_builtin; refine wpList_append_own _ rfl _ _ 31 rfl (w.heap.size + 1) 3 i0 (.int .i64 0) 1 8 Try.underlying31 hi hi0 hi1 hi2 rfl (by decide) _ _ _ rfl (HO2.out.alloc _) ⟨w2.heap.size, 0, none⟩ 1 1 [.int .i64 (-1)] rfl rfl (fun j u hu => new_cell _ _ _ hu) (by simp [Value.oneCell']) hj3 (by omega) (by simp; omega) ?_; intro v5 w5 hown5 hgrow5 _; have hbg : Below (w.heap.size + 1) w2 w5 := ((Below.refl (w.heap.size + 1) w2).alloc (by omega) _).grown hgrow5 (by simp; omega) (fun k e => (HO2.out.lt k e).1); have e0 := (hbg.cell (p := ⟨w.heap.size, 0, none⟩) (Nat.lt_succ_self _)).trans d0; have e1 := (hbg.cell (p := ⟨w.heap.size, 1, none⟩) (Nat.lt_succ_self _)).trans d1; have hz5 : w.heap.size < w5.heap.size := Nat.lt_of_lt_of_le hz2 hbg.size; have HB5 := Lib.hid (HB2.out.trans (hbg.mono (Nat.le_succ _))); have HO5 := Lib.hid hown5; clear hown5 hgrow5 hbg d0 d1)
        refine ⟨⟨j + 1, hlt, by go_num, ?_, e0, e1, hz5, HB5.out⟩, by simp [RowKit.intOf]; omega⟩
        rw [HTS.out, List.map_append]
        exact HO5.out
    · obtain rfl : j = K := by omega
      have hlt2 : ¬ ((j : Int) + 1 ≤ (j : Int)) := by omega
      have HFIN : Hid (∀ v, wr.ownsRow (w.heap.size + 1) 3 1 v j ((tabL (peakN t p) j).map (Value.int .i64)) → IntsAt wr w.heap.size v (tabL (peakN t p) j)) := Lib.hid (fun v h => by
        rw [IntsAt, tabL_length]
        exact ownsRow_base h (Nat.le_succ _))
      go_wp2_with fail
      go_ret
      exact ⟨_, rfl, HFIN.out _ HO.out, HB.out⟩
end Go.Proofs.Ytponmblponfdaaa
