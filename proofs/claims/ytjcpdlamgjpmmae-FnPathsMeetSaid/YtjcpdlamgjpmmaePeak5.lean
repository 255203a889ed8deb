/-
  WHOLE PATHS AND THEIR PEAKS: 'wholePath', 'wholePeak' of the program, 'rePeaks' of the model.
  PATHS THAT MERGE: 'PathsMerge', 'MergeSteps' of both.
  'reMerge' of the model; 'MergeSteps', 'PathsMerge' of both.
-/
import Derived.Test.YtjcpdlamgjpmmaeListI
import Derived.Test.YtjcpdlamgjpmmaeMost
namespace Go.Proofs.Ytjcpdlamgjpmmae
open Go.RowKit Go.Shelf
set_option linter.unusedVariables false

theorem aft_fnd {t p n : Int} {K i : Nat} (h : cyA t p n = some (K, i)) {j : Nat} (hj : j ≤ K) : aft t p (nx t p) n (j : Int) = (itr (nx t p) j n, true) := by
  obtain ⟨hg, _, hF⟩ := cyA_some h
  have hn : numB n = true := allB_at (f := nx t p) (n := n) (j := 0) (k := K + 1) (by omega) hF.all
  have hle := hF.le
  unfold aft
  rw [if_pos]
  · rfl
  · refine ⟨?_, allB_le (by omega) hF.all⟩
    simp only [askB, inB, Bool.and_eq_true, decide_eq_true_eq]
    exact ⟨⟨hg, hn⟩, by omega⟩
/-- What wholePath hands back. -/
def RetWhole (t p n : Int) (w : World) (e : Ending) (w' : World) : Prop :=
  Below w.heap.size w w' ∧ ((∃ K i g cap, cyA t p n = some (K, i) ∧ e = .returned (.tuple #[.slice (some ⟨g, 0, none⟩) (K + 1) cap, .bool true]) ∧ PathAt w' w.heap.size g cap (nx t p) n K) ∨ (cyA t p n = none ∧ e = .returned (.tuple #[.slice none 0 0, .bool false])))

set_option maxRecDepth 100000 in
set_option maxHeartbeats 2000000 in
theorem wholePath_any (t p n : Int) (w : World) :
    Calls Try.prog 22 #[.agg #[.int .i64 t, .int .i64 p], .int .i64 n] w (RetWhole t p n w) := by
  have HL := Lib.hid (fun w => iLeadOf t p n w)
  have HB0 := Lib.hid ((Below.refl _ w).alloc (Nat.le_refl _) (.cells #[.int .i64 t, .int .i64 p] 25))
  cases ho : cyA t p n with
  | none =>
    have HO := Lib.hid ho
    rw [ldA_none ho, ho] at HL
    clear ho
    go_enter Try.func22, Try.ntmps22
    go_wp2_with fail
    refine (HL.out _).mono ?_
    rintro e w1 ⟨rfl, hb1⟩
    have HB := Lib.hid (HB0.out.trans (hb1.mono (by simp)))
    clear hb1
    dsimp only [Option.isSome]
    go_wp2_with fail
    go_ret2
    exact ⟨HB.out, .inr ⟨HO.out, rfl⟩⟩
  | some x =>
    obtain ⟨K, i⟩ := x
    have HO := Lib.hid ho
    obtain ⟨hg, _, hF⟩ := cyA_some ho
    have hlt := hF.lt
    have hle := hF.le
    rw [ldA_some ho, ho] at HL
    have hP : Hid (∀ w, Calls Try.prog 44 #[.agg #[.int .i64 t, .int .i64 p, .int .i64 n], .int .i64 (K : Int)] w (YesPath (nx t p) n K w)) := Lib.hid (fun w => path_yes t p n K w (by rw [aft_fnd ho (Nat.le_refl _)]))
    have hsum : (i : Int) + ((K - i : Nat) : Int) = (K : Int) := by omega
    obtain ⟨m, hm⟩ : ∃ m, K - i = m := ⟨_, rfl⟩
    rw [hm] at hsum HL
    have hi1 : (i : Int) ≤ 1000 := by omega
    have hm1 : (m : Int) ≤ 1000 := by omega
    clear ho hF hg hm
    go_enter Try.func22, Try.ntmps22
    go_wp2_with fail
    refine (HL.out _).mono ?_
    rintro e w1 ⟨rfl, hb1⟩
    have HB := Lib.hid (HB0.out.trans (hb1.mono (by simp)))
    have d0 : w1.cell? ⟨w.heap.size, 0, none⟩ = some (.int .i64 t) := (hb1.cell (p := ⟨w.heap.size, 0, none⟩) (by simp)).trans (by go_simp)
    have d1 : w1.cell? ⟨w.heap.size, 1, none⟩ = some (.int .i64 p) := (hb1.cell (p := ⟨w.heap.size, 1, none⟩) (by simp)).trans (by go_simp)
    clear hb1
    dsimp only [Option.isSome]
    go_wp2_with fail
    try rw [hsum]
    refine (hP.out _).mono ?_
    rintro e w2 ⟨g, cap, rfl, hpa, hb2⟩
    have HB2 := Lib.hid (HB.out.trans (hb2.mono HB.out.size))
    have HPA : Hid (PathAt w2 w.heap.size g cap (nx t p) n K) := Lib.hid (ownsRow_base hpa HB.out.size)
    clear hb2 hpa d0 d1
    go_wp2_with fail
    go_ret2
    exact ⟨HB2.out, .inl ⟨K, i, g, cap, HO.out, rfl, HPA.out⟩⟩

/-- A whole path's peak, or -1. -/
def peakN (t p n : Int) : Int := match cyA t p n with
  | some (K, _) => best true (fun j => itr (nx t p) j n) K
  | none => -1
theorem peakN_some {t p n : Int} {K i : Nat} (h : cyA t p n = some (K, i)) : peakN t p n = best true (fun j => itr (nx t p) j n) K := by rw [peakN, h]
theorem peakN_none {t p n : Int} (h : cyA t p n = none) : peakN t p n = -1 := by rw [peakN, h]
def peA (t p n : Int) : Int := if (cyA t p n).isSome = true then peakN t p n else 0
theorem hvN_peak (t p n : Int) : hvN (fun n => (peA t p n, (cyA t p n).isSome)) n = peakN t p n := by
  unfold hvN peA
  cases h : cyA t p n with
  | none => simp [h, peakN_none h]
  | some x => simp [h]
theorem best_ge (a : Nat → Int) (k : Nat) {j : Nat} (h : j ≤ k) : a j ≤ best true a k := by
  have := (far_best true a k).1 j h
  unfold best
  simp [bet] at this
  omega
/-- The number that comes again adds nothing. -/
theorem peak_short {t p n : Int} {K i : Nat} (h : cyA t p n = some (K, i)) : best true (fun j => itr (nx t p) j n) (K - 1) = peakN t p n := by
  have hF := (cyA_some h).2.2
  have hlt := hF.lt
  obtain ⟨k, rfl⟩ : ∃ k, K = k + 1 := ⟨K - 1, by omega⟩
  rw [peakN_some h, Nat.add_sub_cancel, best_max, if_neg]
  have h2 : itr (nx t p) i n ≤ best true (fun j => itr (nx t p) j n) k := best_ge (fun j => itr (nx t p) j n) k (by omega)
  rw [hF.eq] at h2
  exact Int.not_lt.2 h2
theorem peakN_bound (t p n : Int) (h1 : 1 ≤ n) : -1 ≤ peakN t p n ∧ peakN t p n ≤ 1000000000000 := by
  cases h : cyA t p n with
  | none => rw [peakN_none h]; omega
  | some x =>
    obtain ⟨K, i⟩ := x
    have hF := (cyA_some h).2.2
    rw [peakN_some h]
    have h2 := best_ge (fun j => itr (nx t p) j n) K (j := 0) (Nat.zero_le _)
    have h3 := far_le true (fun j => itr (nx t p) j n) K
    have h4 := numB_iff.1 (allB_at (f := nx t p) (n := n) (j := far true (fun j => itr (nx t p) j n) K) (k := K + 1) (by omega) hF.all)
    unfold best at h2 ⊢
    dsimp only [itr] at h2 h4 ⊢
    exact ⟨Int.le_trans (by omega) h2, h4.2⟩

set_option maxRecDepth 100000 in
set_option maxHeartbeats 2000000 in
theorem wholePeak_any (t p n : Int) (w : World) :
    Calls Try.prog 26 #[.agg #[.int .i64 t, .int .i64 p], .int .i64 n] w fun e w' => e = .returned (.tuple #[.int .i64 (peA t p n), .bool (cyA t p n).isSome]) ∧ Below w.heap.size w w' := by
  have HW := Lib.hid (fun w => wholePath_any t p n w)
  have HB0 := Lib.hid ((Below.refl _ w).alloc (Nat.le_refl _) (.cells #[.int .i64 t, .int .i64 p] 25))
  go_enter Try.func26, Try.ntmps26
  go_wp2_with fail
  refine (HW.out _).mono ?_
  rintro e w1 ⟨hb1, ⟨K, i, g, cap, ho, rfl, hpa⟩ | ⟨ho, rfl⟩⟩
  · have HB := Lib.hid (HB0.out.trans (hb1.mono (by simp)))
    have hK := (cyA_some ho).2.2.le
    have HY : Hid (peA t p n = best true (fun j => itr (nx t p) j n) K ∧ (cyA t p n).isSome = true) := Lib.hid ⟨by rw [peA, if_pos (by rw [ho]; rfl), peakN_some ho], by rw [ho]; rfl⟩
    have HM := Lib.hid (max_any (fun j => itr (nx t p) j n) K g cap w1 hK (fun j hj => hpa.cell hj))
    clear hb1 ho hpa
    go_wp2_with fail
    refine HM.out.mono ?_
    rintro e w2 ⟨rfl, rfl⟩
    go_wp2_with fail
    go_ret2
    exact ⟨by rw [HY.out.1, HY.out.2]; rfl, HB.out⟩
  · have HB := Lib.hid (HB0.out.trans (hb1.mono (by simp)))
    have HY : Hid (peA t p n = 0 ∧ (cyA t p n).isSome = false) := Lib.hid ⟨by rw [peA, ho]; rfl, by rw [ho]; rfl⟩
    clear hb1 ho
    go_wp2_with fail
    go_ret2
    exact ⟨by rw [HY.out.1, HY.out.2]; rfl, HB.out⟩

theorem iPeakList (t p k : Int) (w : World) : Calls Try.prog 25 #[.agg #[.int .i64 t, .int .i64 p], .int .i64 k, .func (.func 26) #[] #[]] w (RetInts (tabA peakN t p k) (askL t p k) w) := by
  have := listUpTo_any 26 (fun n => (peA t p n, (cyA t p n).isSome)) t p k w (enters_of Try.func26 (by kernel_rfl) rfl) (fun n w _ => wholePeak_any t p n w)
  have e : tabA (fun _ _ => hvN (fun n => (peA t p n, (cyA t p n).isSome))) t p k = tabA peakN t p k := by
    unfold tabA
    rw [show hvN (fun n => (peA t p n, (cyA t p n).isSome)) = peakN t p from funext fun n => hvN_peak t p n]
  unfold RetTab at this
  rw [e] at this
  exact this
theorem bnd_peak (t p k : Int) : Bnd (tabA peakN t p k) := by
  intro j hj
  cases ha : askL t p k
  · rw [tabA_no ha] at hj; cases hj
  · obtain ⟨K, rfl, _, hK, hg⟩ := askL_yes ha
    rw [tabA_yes ha, tabL_length] at hj
    unfold atL
    rw [tabA_yes ha, tabL_at hj]
    exact peakN_bound _ _ _ (by omega)

set_option maxRecDepth 100000 in
set_option maxHeartbeats 4000000 in
theorem rePeaks_any (t p : Int) (K : Nat) (w : World) (hg : goodB t p = true) (hK : K ≤ 300) :
    Calls Try.prog 31 #[.agg #[.int .i64 t, .int .i64 p], .int .i64 (K : Int)] w (RetList (tabL (peakN t p) K) w) := by
  obtain ⟨i0, hi, hi0, hi1, hi2⟩ := info_parts info3
  have HS := Lib.hid (fun n w => cyFind_any t p n w hg)
  have HCG := Lib.hid (fun n => cyA_good (n := n) hg)
  have HB0 := Lib.hid ((Below.refl _ w).alloc (Nat.le_refl _) (.cells #[.int .i64 t, .int .i64 p] 25))
  have hK2 : (K : Int) ≤ 300 := by omega
  clear hg
  go_enter Try.func31, Try.ntmps31
  go_wp2_with fail
  go_loopw [5, 6] (fun v i wr => ∃ j : Nat, j ≤ K ∧ i = .int .i64 ((j : Int) + 1) ∧ wr.ownsRow (w.heap.size + 1) 3 1 v j ((tabL (peakN t p) j).map (Value.int .i64)) ∧ wr.cell? ⟨w.heap.size, 0, none⟩ = some (.int .i64 t) ∧ wr.cell? ⟨w.heap.size, 1, none⟩ = some (.int .i64 p) ∧ w.heap.size < wr.heap.size ∧ Below w.heap.size w wr) (fun _ i _ => K + 1 - (RowKit.intOf i).toNat)
  case atStart => exact ⟨0, Nat.zero_le _, rfl, World.ownsRow_nil _ _ _ _, by go_simp, by go_simp, by simp, HB0.out⟩
  case round =>
    obtain ⟨j, hj, rfl, hown, c0, c1, hz, hbel⟩ := hrel
    have HO := Lib.hid hown
    have HB := Lib.hid hbel
    clear hown hbel
    by_cases hlt : j < K
    · have hlt2 : (j : Int) + 1 ≤ (K : Int) := by omega
      have HSJ := Lib.hid (fun w => HS.out ((j : Int) + 1) w)
      rw [← HCG.out] at HSJ
      have HTS := Lib.hid (tabL_succ (peakN t p) j)
      have hj3 : j + 1 ≤ maxLen := by unfold maxLen; omega
      go_wp2_with fail
      refine (HSJ.out _).mono ?_
      rintro e w2 (⟨K2, i2, v2, ho, rfl, hrow, hb2⟩ | ⟨ho, rfl, hb2⟩)
      · have d0 := kept_cell hb2 hz c0
        have d1 := kept_cell hb2 hz c1
        have hz2 := Nat.lt_of_lt_of_le hz hb2.size
        have HB2 := Lib.hid (HB.out.trans (hb2.mono (Nat.le_of_lt hz)))
        have HO2 := Lib.hid (ownsRow_kept HO.out hb2)
        have hF := (cyA_some ho).2.2
        have hlt3 := hF.lt
        have hle3 := hF.le
        obtain ⟨k3, hk3⟩ : ∃ k3, K2 = k3 + 1 := ⟨K2 - 1, by omega⟩
        have hps := peak_short ho
        rw [hk3, Nat.add_sub_cancel] at hps
        obtain ⟨g, cap, rfl, _, hg2, _, _, hir⟩ := ints_row hrow (by rw [wayL_length]; omega)
        rw [wayL_length]
        subst hk3
        have HFA := Lib.hid (mpFar_list (fun j' => itr (nx t p) j' ((j : Int) + 1)) k3 g cap w2 (by omega) (fun j' hj' => by
          have := (hir j' (by rw [wayL_length]; omega)).1
          rw [wayL_at (by omega)] at this
          exact this))
        have hfl := far_le true (fun j' => itr (nx t p) j' ((j : Int) + 1)) k3
        have q := (hir (far true (fun j' => itr (nx t p) j' ((j : Int) + 1)) k3) (by rw [wayL_length]; omega)).1
        rw [wayL_at (by omega), show itr (nx t p) (far true (fun j' => itr (nx t p) j' ((j : Int) + 1)) k3) ((j : Int) + 1) = peakN t p ((j : Int) + 1) from hps] at q
        obtain ⟨F, hFF⟩ : ∃ F, far true (fun j' => itr (nx t p) j' ((j : Int) + 1)) k3 = F := ⟨_, rfl⟩
        rw [hFF] at HFA hfl q
        obtain ⟨x, hx⟩ : ∃ x, peakN t p ((j : Int) + 1) = x := ⟨_, rfl⟩
        rw [hx] at HTS q
        have hF2 : (F : Int) < (k3 : Int) + 1 := by omega
        have hk4 : (k3 : Int) ≤ 1000 := by omega
        clear hb2 c0 c1 HO ho hrow hF hir hps hFF hx
        go_wp2_with (first
          | (go_at_call 50; refine HFA.out.mono ?_; rintro e w' ⟨rfl, rfl⟩)
          | (at_builtin; refine wpList_append_own _ rfl _ _ 38 rfl (w.heap.size + 1) 3 i0 (.int .i64 0) 1 8 Try.underlying38 hi hi0 hi1 hi2 rfl (by decide) _ _ _ rfl (HO2.out.alloc _) ⟨w2.heap.size, 0, none⟩ 1 1 [.int .i64 x] rfl rfl (fun j u hu => new_cell _ _ _ hu) (by simp [Value.oneCell']) hj3 (by omega) (by simp; omega) ?_; intro v5 w5 hown5 hgrow5 _; have hbg : Below (w.heap.size + 1) w2 w5 := ((Below.refl (w.heap.size + 1) w2).alloc (by omega) _).grown hgrow5 (by simp; omega) (fun k e => (HO2.out.lt k e).1); have e0 := (hbg.cell (p := ⟨w.heap.size, 0, none⟩) (Nat.lt_succ_self _)).trans d0; have e1 := (hbg.cell (p := ⟨w.heap.size, 1, none⟩) (Nat.lt_succ_self _)).trans d1; have hz5 : w.heap.size < w5.heap.size := Nat.lt_of_lt_of_le hz2 hbg.size; have HB5 := Lib.hid (HB2.out.trans (hbg.mono (Nat.le_succ _))); have HO5 := Lib.hid hown5; clear hown5 hgrow5 hbg d0 d1))
        refine ⟨⟨j + 1, hlt, by go_num, ?_, e0, e1, hz5, HB5.out⟩, by simp [RowKit.intOf]; omega⟩
        rw [HTS.out, List.map_append]
        exact HO5.out
      · have d0 := kept_cell hb2 hz c0
        have d1 := kept_cell hb2 hz c1
        have hz2 := Nat.lt_of_lt_of_le hz hb2.size
        have HB2 := Lib.hid (HB.out.trans (hb2.mono (Nat.le_of_lt hz)))
        have HO2 := Lib.hid (ownsRow_kept HO.out hb2)
        rw [peakN_none ho] at HTS
        clear hb2 c0 c1 HO ho
        go_wp2_with (at_builtin; refine wpList_append_own _ rfl _ _ 38 rfl (w.heap.size + 1) 3 i0 (.int .i64 0) 1 8 Try.underlying38 hi hi0 hi1 hi2 rfl (by decide) _ _ _ rfl (HO2.out.alloc _) ⟨w2.heap.size, 0, none⟩ 1 1 [.int .i64 (-1)] rfl rfl (fun j u hu => new_cell _ _ _ hu) (by simp [Value.oneCell']) hj3 (by omega) (by simp; omega) ?_; intro v5 w5 hown5 hgrow5 _; have hbg : Below (w.heap.size + 1) w2 w5 := ((Below.refl (w.heap.size + 1) w2).alloc (by omega) _).grown hgrow5 (by simp; omega) (fun k e => (HO2.out.lt k e).1); have e0 := (hbg.cell (p := ⟨w.heap.size, 0, none⟩) (Nat.lt_succ_self _)).trans d0; have e1 := (hbg.cell (p := ⟨w.heap.size, 1, none⟩) (Nat.lt_succ_self _)).trans d1; have hz5 : w.heap.size < w5.heap.size := Nat.lt_of_lt_of_le hz2 hbg.size; have HB5 := Lib.hid (HB2.out.trans (hbg.mono (Nat.le_succ _))); have HO5 := Lib.hid hown5; clear hown5 hgrow5 hbg d0 d1)
        refine ⟨⟨j + 1, hlt, by go_num, ?_, e0, e1, hz5, HB5.out⟩, by simp [RowKit.intOf]; omega⟩
        rw [HTS.out, List.map_append]
        exact HO5.out
    · obtain rfl : j = K := by omega
      have hlt2 : ¬ ((j : Int) + 1 ≤ (j : Int)) := by omega
      have HFIN : Hid (∀ v, wr.ownsRow (w.heap.size + 1) 3 1 v j ((tabL (peakN t p) j).map (Value.int .i64)) → IntsAt wr w.heap.size v (tabL (peakN t p) j)) := Lib.hid (fun v h => by
        rw [IntsAt, tabL_length]
        exact ownsRow_base h (Nat.le_succ _))
      go_wp2_with fail
      go_ret
      exact ⟨_, rfl, HFIN.out _ HO.out, HB.out⟩
end Go.Proofs.Ytjcpdlamgjpmmae

namespace Go.Proofs.Ytjcpdlamgjpmmae
open Go.RowKit Go.Shelf
set_option linter.unusedVariables false

/-- The first place among the first K at which v is. -/
def pos2 (y : Nat → Int) (K : Nat) (v : Int) : Option Nat := (List.range K).find? fun (k : Nat) => y k == v
theorem pos2_some {y : Nat → Int} {K : Nat} {v : Int} {k : Nat} (h : pos2 y K v = some k) : k < K ∧ y k = v := by
  have h1 := List.find?_some h
  have h2 := List.mem_of_find?_eq_some h
  exact ⟨by simpa using h2, by simpa using h1⟩
theorem pos2_none {y : Nat → Int} {K : Nat} {v : Int} (h : pos2 y K v = none) : ∀ k, k < K → y k ≠ v := by
  intro k hk
  have := List.find?_eq_none.1 h k (by simpa using hk)
  simpa using this
theorem pos2_of {y : Nat → Int} {K : Nat} {v : Int} {k : Nat} (hk : k < K) (he : y k = v) (hf : ∀ m, m < k → y m ≠ v) : pos2 y K v = some k := by
  cases h : pos2 y K v with
  | none => exact absurd he (pos2_none h k hk)
  | some j =>
    obtain ⟨h1, h2⟩ := pos2_some h
    have h3 : ∀ m, m < j → y m ≠ v := by
      intro m hm
      unfold pos2 at h
      have := List.find?_range_eq_some.1 h
      have := this.2.2 m hm
      simpa using this
    rcases Nat.lt_trichotomy k j with e | e | e
    · exact absurd he (h3 k e)
    · rw [e]
    · exact absurd h2 (hf j e)
theorem pos2_not {y : Nat → Int} {K : Nat} {v : Int} (hf : ∀ m, m < K → y m ≠ v) : pos2 y K v = none := by
  cases h : pos2 y K v with
  | none => rfl
  | some j => exact absurd (pos2_some h).2 (hf j (pos2_some h).1)
theorem pos2_first {y : Nat → Int} {K : Nat} {v : Int} {k : Nat} (h : pos2 y K v = some k) : ∀ m, m < k → y m ≠ v := by
  intro m hm e
  unfold pos2 at h
  have h2 := (List.find?_range_eq_some.1 h).2.2 m hm
  simp [e] at h2
/-- One more that was there adds nothing. -/
theorem pos2_more {y : Nat → Int} {K : Nat} {v : Int} {i : Nat} (hi : i < K) (he : y i = y K) : pos2 y (K + 1) v = pos2 y K v := by
  cases h : pos2 y K v with
  | some k =>
    obtain ⟨h1, h2⟩ := pos2_some h
    exact pos2_of (by omega) h2 (pos2_first h)
  | none =>
    refine pos2_not fun m hm => ?_
    by_cases e : m = K
    · subst e; rw [← he]; exact pos2_none h i hi
    · exact pos2_none h m (by omega)
/-- The first of the first n places of x whose number is among the first K of y, and where it is there. -/
def mgR (x y : Nat → Int) (K : Nat) : Nat → Option (Nat × Nat)
  | 0 => none
  | n + 1 => match mgR x y K n with
    | some r => some r
    | none => match pos2 y K (x n) with
      | some k => some (n, k)
      | none => none
theorem mgR_on {x y : Nat → Int} {K n : Nat} (h : mgR x y K n = none) (hp : pos2 y K (x n) = none) : mgR x y K (n + 1) = none := by rw [mgR, h]; simp only []; rw [hp]
theorem mgR_hit {x y : Nat → Int} {K n k : Nat} (h : mgR x y K n = none) (hp : pos2 y K (x n) = some k) : mgR x y K (n + 1) = some (n, k) := by rw [mgR, h]; simp only []; rw [hp]
theorem mgR_lift {x y : Nat → Int} {K : Nat} {r : Nat × Nat} : ∀ {n m : Nat}, n ≤ m → mgR x y K n = some r → mgR x y K m = some r := by
  intro n m hnm h
  induction m with
  | zero => obtain rfl : n = 0 := by omega
            exact h
  | succ m ih =>
    by_cases e : n = m + 1
    · subst e; exact h
    · rw [mgR, ih (by omega)]
theorem mgR_pos {x y : Nat → Int} {K : Nat} : ∀ {n : Nat}, mgR x y K n = none → ∀ i, i < n → pos2 y K (x i) = none := by
  intro n
  induction n with
  | zero => intro _ i hi; omega
  | succ n ih =>
    intro h i hi
    cases hn : mgR x y K n with
    | some r => rw [mgR, hn] at h; cases h
    | none =>
      cases hp : pos2 y K (x n) with
      | some k => rw [mgR_hit hn hp] at h; cases h
      | none =>
        by_cases e : i = n
        · subst e; exact hp
        · exact ih hn i (by omega)
theorem mgR_lt {x y : Nat → Int} {K : Nat} {r : Nat × Nat} : ∀ {n : Nat}, mgR x y K n = some r → r.1 < n ∧ r.2 < K := by
  intro n
  induction n with
  | zero => intro h; cases h
  | succ n ih =>
    intro h
    cases hn : mgR x y K n with
    | some s =>
      rw [mgR, hn] at h
      cases h
      have := ih hn
      omega
    | none =>
      cases hp : pos2 y K (x n) with
      | some k => rw [mgR_hit hn hp] at h; cases h; have := (pos2_some hp).1; dsimp only; omega
      | none => rw [mgR_on hn hp] at h; cases h
theorem mgR_more {x y : Nat → Int} {K n i : Nat} (hi : i < n) (he : x i = x n) : mgR x y K (n + 1) = mgR x y K n := by
  cases h : mgR x y K n with
  | some r => exact mgR_lift (Nat.le_succ n) h
  | none => exact mgR_on h (by rw [← he]; exact mgR_pos h i hi)
/-- What MergeSteps comes to. -/
def mgA (t p a b : Int) : Option (Nat × Nat) := match cyA t p a, cyA t p b with
  | some (K, _), some (L, _) => mgR (fun j => itr (nx t p) j a) (fun j => itr (nx t p) j b) L K
  | _, _ => none
theorem mgA_some {t p a b : Int} {K i L l : Nat} (h : cyA t p a = some (K, i)) (h' : cyA t p b = some (L, l)) : mgA t p a b = mgR (fun j => itr (nx t p) j a) (fun j => itr (nx t p) j b) L K := by rw [mgA, h, h']
theorem mgA_left {t p a b : Int} (h : cyA t p a = none) : mgA t p a b = none := by rw [mgA, h]
theorem mgA_right {t p a b : Int} (h : cyA t p b = none) : mgA t p a b = none := by
  unfold mgA
  rw [h]
  cases cyA t p a <;> rfl
/-- With the numbers that come again. -/
theorem mgA_full {t p a b : Int} {K i L l : Nat} (h : cyA t p a = some (K, i)) (h' : cyA t p b = some (L, l)) : mgR (fun j => itr (nx t p) j a) (fun j => itr (nx t p) j b) L (K + 1) = mgA t p a b := by
  have hF := (cyA_some h).2.2
  rw [mgA_some h h']
  exact mgR_more hF.lt hF.eq
def msA (t p a b : Int) : Int × Int × Bool := match mgA t p a b with
  | some (i, k) => ((i : Int), (k : Int), true)
  | none => (0, 0, false)
theorem msA_some {t p a b : Int} {i k : Nat} (h : mgA t p a b = some (i, k)) : msA t p a b = ((i : Int), (k : Int), true) := by rw [msA, h]
theorem msA_none {t p a b : Int} (h : mgA t p a b = none) : msA t p a b = (0, 0, false) := by rw [msA, h]
def pmA (t p a b : Int) : Int × Bool := match mgA t p a b with
  | some (i, _) => (itr (nx t p) i a, true)
  | none => (0, false)
theorem pmA_some {t p a b : Int} {i k : Nat} (h : mgA t p a b = some (i, k)) : pmA t p a b = (itr (nx t p) i a, true) := by rw [pmA, h]
theorem pmA_none {t p a b : Int} (h : mgA t p a b = none) : pmA t p a b = (0, false) := by rw [pmA, h]
def Ret3 (x : Int × Int × Bool) (w : World) (e : Ending) (w' : World) : Prop := e = .returned (.tuple #[.int .i64 x.1, .int .i64 x.2.1, .bool x.2.2]) ∧ Below w.heap.size w w'
theorem ret_3 {x : Int × Int × Bool} {a b : Int} {c : Bool} (h : x = (a, b, c)) : Ending.returned (.tuple #[.int .i64 a, .int .i64 b, .bool c]) = .returned (.tuple #[.int .i64 x.1, .int .i64 x.2.1, .bool x.2.2]) := by rw [h]
def Ret2 (x : Int × Bool) (w : World) (e : Ending) (w' : World) : Prop := e = .returned (.tuple #[.int .i64 x.1, .bool x.2]) ∧ Below w.heap.size w w'

/-- 'slices.Index' at any list. -/
def idxP (o : Option Nat) : Int := match o with
  | some k => (k : Int)
  | none => -1
set_option maxRecDepth 100000 in
set_option maxHeartbeats 2000000 in
theorem index_full (y : Nat → Int) (K : Nat) (a : Option Addr) (cap : Nat) (v : Int) (w : World) (hK : K ≤ 1001) (hc : ∀ j, j < K → ∃ g, a = some ⟨g, 0, none⟩ ∧ w.cell? ⟨g, j, none⟩ = some (.int .i64 (y j))) :
    Calls Try.prog 23 #[.slice a K cap, .int .i64 v] w fun e w' => e = .returned (.int .i64 (idxP (pos2 y K v))) ∧ w = w' := by
  have HC := Lib.hid hc
  have HYES := Lib.hid (fun j (hj : j < K) he hf => congrArg idxP (pos2_of (y := y) (K := K) (v := v) (k := j) hj he hf))
  have HNO := Lib.hid (fun hf => congrArg idxP (pos2_not (y := y) (K := K) (v := v) hf))
  have hK2 : (K : Int) ≤ 1001 := by omega
  obtain ⟨r, hr⟩ : ∃ r, idxP (pos2 y K v) = r := ⟨_, rfl⟩
  rw [hr] at HYES HNO ⊢
  clear hc hr
  go_enter Try.func23, Try.ntmps23
  go_wp2_with fail
  go_loop [8] (fun i => ∃ j : Nat, j ≤ K ∧ i = .int .i64 j ∧ ∀ m, m < j → y m ≠ v) (fun i => K - (RowKit.intOf i).toNat)
  case atStart => exact ⟨0, Nat.zero_le _, rfl, fun m hm => by omega⟩
  case round =>
    obtain ⟨j, hj, rfl, hno⟩ := hrel
    have HN := Lib.hid hno
    clear hno
    by_cases hlt : j < K
    · obtain ⟨g, rfl, q⟩ := HC.out j hlt
      have hlt2 : (j : Int) < (K : Int) := by omega
      have HY := Lib.hid (HYES.out j hlt)
      obtain ⟨x, hx⟩ : ∃ x, y j = x := ⟨_, rfl⟩
      have HX := Lib.hid hx
      rw [hx] at q
      clear hx
      by_cases he : v = x
      · have HR : Hid (r = (j : Int)) := Lib.hid ((HY.out (by rw [HX.out, he]) HN.out).trans rfl)
        have he1 : (v == x) = true := by simpa using he
        clear HY HYES HNO he
        go_wp2_with fail
        go_ret
        exact ⟨by rw [HR.out]; rfl, rfl⟩
      · have he1 : (v == x) = false := by simpa using he
        have HNE := Lib.hid he
        clear HY he
        go_wp2_with fail
        exact ⟨⟨j + 1, hlt, by go_num, fun m hm => by
          by_cases e : m = j
          · subst e; rw [HX.out]; exact fun h => HNE.out h.symm
          · exact HN.out m (by omega)⟩, by simp [RowKit.intOf]; omega⟩
    · obtain rfl : j = K := by omega
      have hlt2 : ¬ ((j : Int) < (j : Int)) := by omega
      have HR : Hid (r = -1) := Lib.hid ((HNO.out HN.out).trans rfl)
      clear HNO HYES
      go_wp2_with fail
      go_ret
      exact ⟨by rw [HR.out]; rfl, rfl⟩
theorem idxP_some {y : Nat → Int} {K : Nat} {v : Int} {k : Nat} (h : pos2 y K v = some k) : idxP (pos2 y K v) = (k : Int) := by rw [h]; rfl
theorem idxP_none {y : Nat → Int} {K : Nat} {v : Int} (h : pos2 y K v = none) : idxP (pos2 y K v) = -1 := by rw [h]; rfl

theorem reTwo_any (t p a b : Int) (w : World) :
    Calls Try.prog 20 #[.agg #[.int .i64 t, .int .i64 p], .int .i64 a, .int .i64 b] w fun e w' => e = .returned (.bool (goodB t p && numB a && numB b)) ∧ Below w.heap.size w w' := by
  have HM := Lib.hid (fun w => mpGood_any t p w)
  have HN := Lib.hid (fun w => mpIs_any a w)
  have HN2 := Lib.hid (fun w => mpIs_any b w)
  cases hg : goodB t p <;> cases ha : numB a <;> cases hb : numB b
  all_goals
    rw [hg] at HM
    rw [ha] at HN
    rw [hb] at HN2
    clear hg ha hb
    go_enter Try.func20, Try.ntmps20
    go_wp2_with fail
    refine (HM.out _).mono ?_
    rintro e w1 ⟨rfl, hb1⟩
    obtain ⟨c0, c1, hz, hbb⟩ := map_block hb1
    clear hb1
    go_wp2_with (first | (go_at_call 41; refine (HN.out _).mono ?_; rintro e w' ⟨rfl, rfl⟩) | (go_at_call 41; refine (HN2.out _).mono ?_; rintro e w' ⟨rfl, rfl⟩))
    go_ret
    exact ⟨rfl, hbb⟩
end Go.Proofs.Ytjcpdlamgjpmmae

namespace Go.Proofs.Ytjcpdlamgjpmmae
open Go.RowKit Go.Shelf
set_option linter.unusedVariables false

theorem results_4 {fn : Func} {t u v x : Tmp} (h : fn.results = #[.tmp t, .tmp u, .tmp v, .tmp x]) (tmps : Array Value) (P : Program) (w : World) :
    (results fn tmps).run P w = .ok (.tuple #[tmps.getD t undef, tmps.getD u undef, tmps.getD v undef, tmps.getD x undef]) w := by
  simp [results, h]
/-- What reMerge hands back. -/
def RetMerge (t p a b : Int) (w : World) (e : Ending) (w' : World) : Prop :=
  Below w.heap.size w w' ∧ ((∃ i k K g cap, mgA t p a b = some (i, k) ∧ i < K ∧ K ≤ 1000 ∧ k ≤ 1000 ∧ e = .returned (.tuple #[.slice (some ⟨g, 0, none⟩) K cap, .int .i64 (i : Int), .int .i64 (k : Int), .bool true]) ∧ w'.cell? ⟨g, i, none⟩ = some (.int .i64 (itr (nx t p) i a))) ∨
    (mgA t p a b = none ∧ e = .returned (.tuple #[.slice none 0 0, .int .i64 0, .int .i64 0, .bool false])))

set_option maxRecDepth 100000 in
set_option maxHeartbeats 8000000 in
theorem reMerge_any (t p a b : Int) (w : World) (hg : goodB t p = true) :
    Calls Try.prog 21 #[.agg #[.int .i64 t, .int .i64 p], .int .i64 a, .int .i64 b] w (RetMerge t p a b w) := by
  have HS := Lib.hid (fun n w => cyFind_any t p n w hg)
  have HCG := Lib.hid (fun n => cyA_good (n := n) hg)
  have HB0 := Lib.hid ((Below.refl _ w).alloc (Nat.le_refl _) (.cells #[.int .i64 t, .int .i64 p] 25))
  have HSA := Lib.hid (fun w => HS.out a w)
  have HSB := Lib.hid (fun w => HS.out b w)
  rw [← HCG.out] at HSA
  rw [← HCG.out] at HSB
  clear hg HS HCG
  go_enter Try.func21, Try.ntmps21
  go_wp2_with fail
  refine (HSA.out _).mono ?_
  rintro e w1 (⟨K, i, v1, ho, rfl, hrow, hb1⟩ | ⟨ho, rfl, hb1⟩)
  · have HB := Lib.hid (HB0.out.trans (hb1.mono (by simp)))
    have d0 : w1.cell? ⟨w.heap.size, 0, none⟩ = some (.int .i64 t) := (hb1.cell (p := ⟨w.heap.size, 0, none⟩) (by simp)).trans (by go_simp)
    have d1 : w1.cell? ⟨w.heap.size, 1, none⟩ = some (.int .i64 p) := (hb1.cell (p := ⟨w.heap.size, 1, none⟩) (by simp)).trans (by go_simp)
    have HO := Lib.hid ho
    have HROW := Lib.hid hrow
    clear hb1 ho hrow
    go_wp2_with fail
    refine (HSB.out _).mono ?_
    rintro e w2 (⟨L, l, v2, ho2, rfl, hrow2, hb2⟩ | ⟨ho2, rfl, hb2⟩)
    · have HB2 := Lib.hid (HB.out.trans (hb2.mono HB.out.size))
      have hmg := mgA_some HO.out ho2
      have hF := (cyA_some HO.out).2.2
      have hF2 := (cyA_some ho2).2.2
      have hK0 := hF.lt
      have hK1 := hF.le
      have hL0 := hF2.lt
      have hL1 := hF2.le
      obtain ⟨g, cap, rfl, _, hg2, _, _, hir⟩ := ints_row HROW.out (by rw [wayL_length]; omega)
      obtain ⟨g', cap', rfl, _, hg2', _, _, hir'⟩ := ints_row hrow2 (by rw [wayL_length]; omega)
      rw [wayL_length, wayL_length]
      obtain ⟨x, hx⟩ : ∃ x : Nat → Int, (fun j => itr (nx t p) j a) = x := ⟨_, rfl⟩
      obtain ⟨y, hy⟩ : ∃ y : Nat → Int, (fun j => itr (nx t p) j b) = y := ⟨_, rfl⟩
      have HX : Hid (∀ j, j < K → w2.cell? ⟨g, j, none⟩ = some (.int .i64 (x j))) := Lib.hid (fun j hj => by
        have := (hir j (by rw [wayL_length]; exact hj)).1
        rw [wayL_at hj] at this
        rw [← hx]
        exact (hb2.cell (p := ⟨g, j, none⟩) hg2).trans this)
      have HYY : Hid (∀ j, j < L → w2.cell? ⟨g', j, none⟩ = some (.int .i64 (y j))) := Lib.hid (fun j hj => by
        have := (hir' j (by rw [wayL_length]; exact hj)).1
        rw [wayL_at hj] at this
        rw [← hy]
        exact this)
      rw [hx, hy] at hmg
      have HMG := Lib.hid hmg
      have HXE := Lib.hid (fun j => congrFun hx j)
      have hK2 : (K : Int) ≤ 1000 := by omega
      have hL2 : (L : Int) ≤ 1000 := by omega
      clear hb2 ho2 hrow2 hmg hF hF2 hir hir' hx hy d0 d1 HROW
      go_wp2_with fail
      go_loop [42] (fun i => ∃ j : Nat, j ≤ K ∧ i = .int .i64 j ∧ mgR x y L j = none) (fun i => K - (RowKit.intOf i).toNat)
      case atStart => exact ⟨0, Nat.zero_le _, rfl, rfl⟩
      case round =>
        obtain ⟨j, hj, rfl, hno⟩ := hrel
        have HNO := Lib.hid hno
        clear hno
        by_cases hlt : j < K
        · have q := HX.out j hlt
          have hlt2 : (j : Int) < (K : Int) := by omega
          have HXJ := Lib.hid (HXE.out j)
          obtain ⟨u, hu⟩ : ∃ u, x j = u := ⟨_, rfl⟩
          have HU := Lib.hid hu
          rw [hu] at q
          clear hu
          go_wp2_with fail
          go_loop [49] (fun i => ∃ m : Nat, m ≤ L ∧ i = .int .i64 m ∧ ∀ l, l < m → y l ≠ u) (fun i => L - (RowKit.intOf i).toNat)
          case atStart => exact ⟨0, Nat.zero_le _, rfl, fun l hl => by omega⟩
          case round =>
            obtain ⟨m, hm, rfl, hne⟩ := hrel
            have HNE := Lib.hid hne
            clear hne
            by_cases hml : m < L
            · have q' := HYY.out m hml
              have hml2 : (m : Int) < (L : Int) := by omega
              obtain ⟨z, hz⟩ : ∃ z, y m = z := ⟨_, rfl⟩
              have HZ := Lib.hid hz
              rw [hz] at q'
              clear hz
              by_cases he : u = z
              · have he1 : (u == z) = true := by simpa using he
                have HR : Hid (mgA t p a b = some (j, m)) := Lib.hid (by
                  rw [HMG.out]
                  exact mgR_lift (n := j + 1) hlt (mgR_hit HNO.out (by rw [HU.out]; exact pos2_of hml (by rw [HZ.out, he]) HNE.out)))
                clear he
                go_wp2_with fail
                refine bodyPost_ret (results_4 rfl _ _ _) rfl ?_
                exact ⟨HB2.out, .inl ⟨j, m, K, g, cap, HR.out, hlt, hK1, by omega, rfl, by rw [show itr (nx t p) j a = u from HXJ.out.trans HU.out]; exact q⟩⟩
              · have he1 : (u == z) = false := by simpa using he
                have HE := Lib.hid he
                clear he
                go_wp2_with fail
                exact ⟨⟨m + 1, hml, by go_num, fun l hl => by
                  by_cases e : l = m
                  · subst e; rw [HZ.out]; exact fun h => HE.out h.symm
                  · exact HNE.out l (by omega)⟩, by simp [RowKit.intOf]; omega⟩
            · obtain rfl : m = L := by omega
              have hml2 : ¬ ((m : Int) < (m : Int)) := by omega
              have HR := Lib.hid (mgR_on HNO.out (by rw [HU.out]; exact pos2_not HNE.out))
              go_wp2_with fail
              exact ⟨⟨j + 1, hlt, by go_num, HR.out⟩, by simp [RowKit.intOf]; omega⟩
        · obtain rfl : j = K := by omega
          have hlt2 : ¬ ((j : Int) < (j : Int)) := by omega
          have HR : Hid (mgA t p a b = none) := Lib.hid (by rw [HMG.out]; exact HNO.out)
          go_wp2_with fail
          refine bodyPost_ret (results_4 rfl _ _ _) rfl ?_
          exact ⟨HB2.out, .inr ⟨HR.out, rfl⟩⟩
    · have HB2 := Lib.hid (HB.out.trans (hb2.mono HB.out.size))
      have HR := Lib.hid (mgA_right (a := a) ho2)
      obtain ⟨ad, cap, rfl⟩ := HROW.out.form
      clear hb2 ho2 d0 d1
      go_wp2_with fail
      refine bodyPost_ret (results_4 rfl _ _ _) rfl ?_
      exact ⟨HB2.out, .inr ⟨HR.out, rfl⟩⟩
  · have HB := Lib.hid (HB0.out.trans (hb1.mono (by simp)))
    have d0 : w1.cell? ⟨w.heap.size, 0, none⟩ = some (.int .i64 t) := (hb1.cell (p := ⟨w.heap.size, 0, none⟩) (by simp)).trans (by go_simp)
    have d1 : w1.cell? ⟨w.heap.size, 1, none⟩ = some (.int .i64 p) := (hb1.cell (p := ⟨w.heap.size, 1, none⟩) (by simp)).trans (by go_simp)
    have HR := Lib.hid (mgA_left (b := b) ho)
    clear hb1 ho
    go_wp2_with fail
    refine (HSB.out _).mono ?_
    rintro e w2 (⟨L, l, v2, ho2, rfl, hrow2, hb2⟩ | ⟨ho2, rfl, hb2⟩)
    all_goals
      have HB2 := Lib.hid (HB.out.trans (hb2.mono HB.out.size))
      clear hb2 ho2 d0 d1
      go_wp2_with fail
      refine bodyPost_ret (results_4 rfl _ _ _) rfl ?_
      exact ⟨HB2.out, .inr ⟨HR.out, rfl⟩⟩

theorem ask_two {t p a b : Int} (h : (goodB t p && numB a && numB b) = false) : mgA t p a b = none := by
  cases hg : goodB t p
  · exact mgA_left (cyA_bad hg)
  · cases ha : numB a
    · exact mgA_left (cyA_num ha)
    · cases hb : numB b
      · exact mgA_right (cyA_num hb)
      · rw [hg, ha, hb] at h; cases h
theorem ask_two_good {t p a b : Int} (h : (goodB t p && numB a && numB b) = true) : goodB t p = true := by
  simp only [Bool.and_eq_true] at h
  exact h.1.1

set_option maxRecDepth 100000 in
set_option maxHeartbeats 4000000 in
theorem sMergeSteps (t p a b : Int) (w : World) :
    Calls Try.prog 9 #[.agg #[.int .i64 t, .int .i64 p], .int .i64 a, .int .i64 b] w (Ret3 (msA t p a b) w) := by
  have HT := Lib.hid (fun w => reTwo_any t p a b w)
  cases hq : (goodB t p && numB a && numB b)
  · have HY := Lib.hid (msA_none (ask_two hq))
    rw [hq] at HT
    clear hq
    go_enter Try.func9, Try.ntmps9
    go_wp2_with fail
    refine (HT.out _).mono ?_
    rintro e w1 ⟨rfl, hb1⟩
    obtain ⟨c0, c1, hz, hb⟩ := map_block hb1
    clear hb1
    go_wp2_with fail
    go_ret3
    exact ⟨ret_3 HY.out, hb⟩
  · have HR := Lib.hid (fun w => reMerge_any t p a b w (ask_two_good hq))
    rw [hq] at HT
    clear hq
    go_enter Try.func9, Try.ntmps9
    go_wp2_with fail
    refine (HT.out _).mono ?_
    rintro e w1 ⟨rfl, hb1⟩
    obtain ⟨c0, c1, hz, hb⟩ := map_block hb1
    clear hb1
    go_wp2_with fail
    refine (HR.out _).mono ?_
    rintro e w2 ⟨hb2, ⟨i, k, K, g, cap, ho, hiK, hK, hk, rfl, q⟩ | ⟨ho, rfl⟩⟩
    · have HB := Lib.hid (hb.trans (hb2.mono (Nat.le_of_lt hz)))
      have HY := Lib.hid (msA_some ho)
      clear hb2 hb c0 c1 ho q
      go_wp2_with fail
      go_ret3
      exact ⟨ret_3 HY.out, HB.out⟩
    · have HB := Lib.hid (hb.trans (hb2.mono (Nat.le_of_lt hz)))
      have HY := Lib.hid (msA_none ho)
      clear hb2 hb c0 c1 ho
      go_wp2_with fail
      go_ret3
      exact ⟨ret_3 HY.out, HB.out⟩

theorem ret_2p {x : Int × Bool} {a : Int} {c : Bool} (h : x = (a, c)) : Ending.returned (.tuple #[.int .i64 a, .bool c]) = .returned (.tuple #[.int .i64 x.1, .bool x.2]) := by rw [h]
set_option maxRecDepth 100000 in
set_option maxHeartbeats 4000000 in
theorem sPathsMerge (t p a b : Int) (w : World) :
    Calls Try.prog 7 #[.agg #[.int .i64 t, .int .i64 p], .int .i64 a, .int .i64 b] w (Ret2 (pmA t p a b) w) := by
  have HT := Lib.hid (fun w => reTwo_any t p a b w)
  cases hq : (goodB t p && numB a && numB b)
  · have HY := Lib.hid (pmA_none (ask_two hq))
    rw [hq] at HT
    clear hq
    go_enter Try.func7, Try.ntmps7
    go_wp2_with fail
    refine (HT.out _).mono ?_
    rintro e w1 ⟨rfl, hb1⟩
    obtain ⟨c0, c1, hz, hb⟩ := map_block hb1
    clear hb1
    go_wp2_with fail
    go_ret2
    exact ⟨ret_2p HY.out, hb⟩
  · have HR := Lib.hid (fun w => reMerge_any t p a b w (ask_two_good hq))
    rw [hq] at HT
    clear hq
    go_enter Try.func7, Try.ntmps7
    go_wp2_with fail
    refine (HT.out _).mono ?_
    rintro e w1 ⟨rfl, hb1⟩
    obtain ⟨c0, c1, hz, hb⟩ := map_block hb1
    clear hb1
    go_wp2_with fail
    refine (HR.out _).mono ?_
    rintro e w2 ⟨hb2, ⟨i, k, K, g, cap, ho, hiK, hK, hk, rfl, q⟩ | ⟨ho, rfl⟩⟩
    · have HB := Lib.hid (hb.trans (hb2.mono (Nat.le_of_lt hz)))
      have HY := Lib.hid (pmA_some ho)
      obtain ⟨x, hx⟩ : ∃ x, itr (nx t p) i a = x := ⟨_, rfl⟩
      rw [hx] at q HY
      have hi2 : (i : Int) < (K : Int) := by omega
      have hK2 : (K : Int) ≤ 1000 := by omega
      clear hb2 hb c0 c1 ho hx
      go_wp2_with fail
      go_ret2
      exact ⟨ret_2p HY.out, HB.out⟩
    · have HB := Lib.hid (hb.trans (hb2.mono (Nat.le_of_lt hz)))
      have HY := Lib.hid (pmA_none ho)
      clear hb2 hb c0 c1 ho
      go_wp2_with fail
      go_ret2
      exact ⟨ret_2p HY.out, HB.out⟩

set_option maxRecDepth 100000 in
set_option maxHeartbeats 8000000 in
theorem iMergeSteps (t p a b : Int) (w : World) :
    Calls Try.prog 8 #[.agg #[.int .i64 t, .int .i64 p], .int .i64 a, .int .i64 b] w (Ret3 (msA t p a b) w) := by
  have HWA := Lib.hid (fun w => wholePath_any t p a w)
  have HWB := Lib.hid (fun w => wholePath_any t p b w)
  have HB0 := Lib.hid ((Below.refl _ w).alloc (Nat.le_refl _) (.cells #[.int .i64 t, .int .i64 p] 25))
  go_enter Try.func8, Try.ntmps8
  go_wp2_with fail
  refine (HWA.out _).mono ?_
  rintro e w1 ⟨hb1, ⟨K, i, g, cap, ho, rfl, hpa⟩ | ⟨ho, rfl⟩⟩
  · have HB := Lib.hid (HB0.out.trans (hb1.mono (by simp)))
    have d0 : w1.cell? ⟨w.heap.size, 0, none⟩ = some (.int .i64 t) := (hb1.cell (p := ⟨w.heap.size, 0, none⟩) (by simp)).trans (by go_simp)
    have d1 : w1.cell? ⟨w.heap.size, 1, none⟩ = some (.int .i64 p) := (hb1.cell (p := ⟨w.heap.size, 1, none⟩) (by simp)).trans (by go_simp)
    have HO := Lib.hid ho
    have HPA := Lib.hid hpa
    have hgl := hpa.lt.2
    clear hb1 ho hpa
    go_wp2_with fail
    refine (HWB.out _).mono ?_
    rintro e w2 ⟨hb2, ⟨L, l, g', cap', ho2, rfl, hpa2⟩ | ⟨ho2, rfl⟩⟩
    · have HB2 := Lib.hid (HB.out.trans (hb2.mono HB.out.size))
      have hmg := mgA_full HO.out ho2
      have hF := (cyA_some HO.out).2.2
      have hF2 := (cyA_some ho2).2.2
      have hK1 := hF.le
      have hL1 := hF2.le
      have hL0 := hF2.lt
      have hyL := hF2.eq
      obtain ⟨x, hx⟩ : ∃ x : Nat → Int, (fun j => itr (nx t p) j a) = x := ⟨_, rfl⟩
      obtain ⟨y, hy⟩ : ∃ y : Nat → Int, (fun j => itr (nx t p) j b) = y := ⟨_, rfl⟩
      have HX : Hid (∀ j, j < K + 1 → w2.cell? ⟨g, j, none⟩ = some (.int .i64 (x j))) := Lib.hid (fun j hj => by
        rw [← hx]
        exact (hb2.cell (p := ⟨g, j, none⟩) hgl).trans (HPA.out.cell (by omega)))
      have HYY : Hid (∀ j, j < L + 1 → w2.cell? ⟨g', j, none⟩ = some (.int .i64 (y j))) := Lib.hid (fun j hj => by
        rw [← hy]
        exact hpa2.cell (by omega))
      have HYE : Hid (y l = y L) := Lib.hid (by rw [← hy]; exact hyL)
      rw [hx, hy] at hmg
      have HMG := Lib.hid hmg
      have HIX := Lib.hid (fun v => index_full y (L + 1) (some ⟨g', 0, none⟩) cap' v w2 (by omega) (fun j hj => ⟨g', rfl, HYY.out j hj⟩))
      have HPM := Lib.hid (fun v => pos2_more (v := v) hL0 HYE.out)
      have HPL := Lib.hid (fun v k (h : pos2 y L v = some k) => (pos2_some h).1)
      have hK2 : (K : Int) ≤ 1000 := by omega
      clear hb2 ho2 hpa2 hmg hF hF2 hx hy d0 d1 hyL HYY
      go_wp2_with fail
      go_loop [30] (fun i => ∃ j : Nat, j ≤ K + 1 ∧ i = .int .i64 j ∧ mgR x y L j = none) (fun i => K + 1 - (RowKit.intOf i).toNat)
      case atStart => exact ⟨0, Nat.zero_le _, rfl, rfl⟩
      case round =>
        obtain ⟨j, hj, rfl, hno⟩ := hrel
        have HNO := Lib.hid hno
        clear hno
        by_cases hlt : j < K + 1
        · have q := HX.out j hlt
          have hlt2 : (j : Int) < (K : Int) + 1 := by omega
          obtain ⟨u, hu⟩ : ∃ u, x j = u := ⟨_, rfl⟩
          have HU := Lib.hid hu
          rw [hu] at q
          have HIU := Lib.hid (HIX.out u)
          rw [HPM.out u] at HIU
          clear hu
          cases hp : pos2 y L u with
          | some k =>
            rw [hp] at HIU
            have hkl := HPL.out u k hp
            have HR : Hid (msA t p a b = ((j : Int), (k : Int), true)) := Lib.hid (msA_some (by
              rw [← HMG.out]
              exact mgR_lift (n := j + 1) hlt (mgR_hit HNO.out (by rw [HU.out]; exact hp))))
            dsimp only [idxP] at HIU
            clear hp
            go_wp2_with (go_at_call 23; refine HIU.out.mono ?_; rintro e w' ⟨rfl, rfl⟩)
            try go_quiet (fail)
            try go_wp2
            go_ret3
            exact ⟨ret_3 HR.out, by first | exact HB2.out | exact below_drewN HB2.out _⟩
          | none =>
            rw [hp] at HIU
            have HR := Lib.hid (mgR_on HNO.out (by rw [HU.out]; exact hp))
            dsimp only [idxP] at HIU
            clear hp
            go_wp2_with (go_at_call 23; refine HIU.out.mono ?_; rintro e w' ⟨rfl, rfl⟩)
            exact ⟨⟨j + 1, hlt, by go_num, HR.out⟩, by simp [RowKit.intOf]; omega⟩
        · obtain rfl : j = K + 1 := by omega
          have hlt2 : ¬ ((K : Int) + 1 < (K : Int) + 1) := by omega
          have HR : Hid (msA t p a b = (0, 0, false)) := Lib.hid (msA_none (by rw [← HMG.out]; exact HNO.out))
          go_wp2_with fail
          go_ret3
          exact ⟨ret_3 HR.out, HB2.out⟩
    · have HB2 := Lib.hid (HB.out.trans (hb2.mono HB.out.size))
      have HR : Hid (msA t p a b = (0, 0, false)) := Lib.hid (msA_none (mgA_right ho2))
      have hK1 := (cyA_some HO.out).2.2.le
      have HX : Hid (∀ j, j < K + 1 → w2.cell? ⟨g, j, none⟩ = some (.int .i64 (itr (nx t p) j a))) := Lib.hid (fun j hj => (hb2.cell (p := ⟨g, j, none⟩) hgl).trans (HPA.out.cell (by omega)))
      have HIX := Lib.hid (fun v => index_full (fun _ => 0) 0 none 0 v w2 (by omega) (fun j hj => by omega))
      have hK2 : (K : Int) ≤ 1000 := by omega
      clear hb2 ho2 d0 d1
      go_wp2_with fail
      go_loop [30] (fun i => ∃ j : Nat, j ≤ K + 1 ∧ i = .int .i64 j) (fun i => K + 1 - (RowKit.intOf i).toNat)
      case atStart => exact ⟨0, Nat.zero_le _, rfl⟩
      case round =>
        obtain ⟨j, hj, rfl⟩ := hrel
        by_cases hlt : j < K + 1
        · have q := HX.out j hlt
          have hlt2 : (j : Int) < (K : Int) + 1 := by omega
          obtain ⟨u, hu⟩ : ∃ u, itr (nx t p) j a = u := ⟨_, rfl⟩
          rw [hu] at q
          have HIU := Lib.hid (HIX.out u)
          rw [show pos2 (fun _ => 0) 0 u = none from rfl] at HIU
          dsimp only [idxP] at HIU
          clear hu
          go_wp2_with (go_at_call 23; refine HIU.out.mono ?_; rintro e w' ⟨rfl, rfl⟩)
          exact ⟨⟨j + 1, hlt, by go_num⟩, by simp [RowKit.intOf]; omega⟩
        · obtain rfl : j = K + 1 := by omega
          have hlt2 : ¬ ((K : Int) + 1 < (K : Int) + 1) := by omega
          go_wp2_with fail
          go_ret3
          exact ⟨ret_3 HR.out, HB2.out⟩
  · have HB := Lib.hid (HB0.out.trans (hb1.mono (by simp)))
    have d0 : w1.cell? ⟨w.heap.size, 0, none⟩ = some (.int .i64 t) := (hb1.cell (p := ⟨w.heap.size, 0, none⟩) (by simp)).trans (by go_simp)
    have d1 : w1.cell? ⟨w.heap.size, 1, none⟩ = some (.int .i64 p) := (hb1.cell (p := ⟨w.heap.size, 1, none⟩) (by simp)).trans (by go_simp)
    have HR : Hid (msA t p a b = (0, 0, false)) := Lib.hid (msA_none (mgA_left ho))
    clear hb1 ho
    go_wp2_with fail
    refine (HWB.out _).mono ?_
    rintro e w2 ⟨hb2, ⟨L, l, g', cap', ho2, rfl, hpa2⟩ | ⟨ho2, rfl⟩⟩
    all_goals
      have HB2 := Lib.hid (HB.out.trans (hb2.mono HB.out.size))
      clear hb2 ho2 d0 d1
      go_wp2_with fail
      refine wp_loop_rounds 1 ?_
      rw [rounds_succ]
      go_wp2_with fail
      go_ret3
      exact ⟨ret_3 HR.out, HB2.out⟩

set_option maxRecDepth 100000 in
set_option maxHeartbeats 4000000 in
theorem iPathsMerge (t p a b : Int) (w : World) :
    Calls Try.prog 6 #[.agg #[.int .i64 t, .int .i64 p], .int .i64 a, .int .i64 b] w (Ret2 (pmA t p a b) w) := by
  have HMS := Lib.hid (fun w => iMergeSteps t p a b w)
  have HB0 := Lib.hid ((Below.refl _ w).alloc (Nat.le_refl _) (.cells #[.int .i64 t, .int .i64 p] 25))
  cases ho : mgA t p a b with
  | none =>
    have HY := Lib.hid (pmA_none ho)
    rw [msA_none ho] at HMS
    clear ho
    go_enter Try.func6, Try.ntmps6
    go_wp2_with fail
    refine (HMS.out _).mono ?_
    rintro e w1 ⟨rfl, hb1⟩
    have HB := Lib.hid (HB0.out.trans (hb1.mono (by simp)))
    clear hb1
    go_wp2_with fail
    go_ret2
    exact ⟨ret_2p HY.out, HB.out⟩
  | some r =>
    obtain ⟨i, k⟩ := r
    have HY := Lib.hid (pmA_some ho)
    have haft : aft t p (nx t p) a (i : Int) = (itr (nx t p) i a, true) := by
      cases ha : cyA t p a with
      | none => rw [mgA_left ha] at ho; cases ho
      | some x =>
        obtain ⟨K, c⟩ := x
        cases hb : cyA t p b with
        | none => rw [mgA_right hb] at ho; cases ho
        | some y =>
          obtain ⟨L, d⟩ := y
          rw [mgA_some ha hb] at ho
          have := (mgR_lt ho).1
          exact aft_fnd ha (by dsimp only at this; omega)
    have HN := Lib.hid (fun w => iNumberAfter t p a (i : Int) w)
    rw [haft] at HN
    rw [msA_some ho] at HMS
    clear ho haft
    go_enter Try.func6, Try.ntmps6
    go_wp2_with fail
    refine (HMS.out _).mono ?_
    rintro e w1 ⟨rfl, hb1⟩
    have HB := Lib.hid (HB0.out.trans (hb1.mono (by simp)))
    have d0 : w1.cell? ⟨w.heap.size, 0, none⟩ = some (.int .i64 t) := (hb1.cell (p := ⟨w.heap.size, 0, none⟩) (by simp)).trans (by go_simp)
    have d1 : w1.cell? ⟨w.heap.size, 1, none⟩ = some (.int .i64 p) := (hb1.cell (p := ⟨w.heap.size, 1, none⟩) (by simp)).trans (by go_simp)
    clear hb1
    go_wp2_with fail
    refine (HN.out _).mono ?_
    rintro e w2 ⟨rfl, hb2⟩
    have HB2 := Lib.hid (HB.out.trans (hb2.mono HB.out.size))
    clear hb2 d0 d1
    go_wp2_with fail
    go_ret2
    exact ⟨ret_2p HY.out, HB2.out⟩
end Go.Proofs.Ytjcpdlamgjpmmae
