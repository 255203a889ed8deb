/-
  'reMerge' of the model; 'MergeSteps', 'PathsMerge' of both.
-/
import Derived.Test.YtjcpdlamgjpmmafMerge5
namespace Go.Proofs.Ytjcpdlamgjpmmaf
open Go.RowKit Go.Shelf
set_option linter.unusedVariables false

theorem results_4 {fn : Func} {t u v x : Tmp} (h : fn.results = #[.tmp t, .tmp u, .tmp v, .tmp x]) (tmps : Array Value) (P : Program) (w : World) :
    (results fn tmps).run P w = .ok (.tuple #[tmps.getD t undef, tmps.getD u undef, tmps.getD v undef, tmps.getD x undef]) w := by
  simp [results, h]
/-- What reMerge hands back. -/
def RetMerge (t p a b : Int) (w : World) (e : Ending) (w' : World) : Prop :=
  Below w.heap.size w w' ∧ ((∃ i k K g cap, mgA t p a b = some (i, k) ∧ i < K ∧ K ≤ 1000 ∧ k ≤ 1000 ∧ e = .returned (.tuple #[.slice (some ⟨g, 0, none⟩) K cap, .int .i64 (i : Int), .int .i64 (k : Int), .bool true]) ∧ w'.cell? ⟨g, i, none⟩ = some (.int .i64 (itr (nx t p) i a))) ∨
    (mgA t p a b = none ∧ e = .returned (.tuple #[.slice none 0 0, .int .i64 0, .int .i64 0, .bool false])))

set_option maxRecDepth 100000 in
set_option maxHeartbeats 8000000 in
theorem reMerge_any (t p a b : Int) (w : World) (hg : goodB t p = true) :
    Calls Try.prog 16 #[.agg #[.int .i64 t, .int .i64 p], .int .i64 a, .int .i64 b] w (RetMerge t p a b w) := by
  have HS := Lib.hid (fun n w => cyFind_any t p n w hg)
  have HCG := Lib.hid (fun n => cyA_good (n := n) hg)
  have HB0 := Lib.hid ((Below.refl _ w).alloc (Nat.le_refl _) (.cells #[.int .i64 t, .int .i64 p] 23))
  have HSA := Lib.hid (fun w => HS.out a w)
  have HSB := Lib.hid (fun w => HS.out b w)
  rw [← HCG.out] at HSA
  rw [← HCG.out] at HSB
  clear hg HS HCG
  go_enter Try.func16, Try.ntmps16
  go_wp2_with fail
  refine (HSA.out _).mono ?_
  rintro e w1 (⟨K, i, v1, ho, rfl, hrow, hb1⟩ | ⟨ho, rfl, hb1⟩)
  · have HB := Lib.hid (HB0.out.trans (hb1.mono (by simp)))
    have d0 : w1.cell? ⟨w.heap.size, 0, none⟩ = some (.int .i64 t) := (hb1.cell (p := ⟨w.heap.size, 0, none⟩) (by simp)).trans (by go_simp)
    have d1 : w1.cell? ⟨w.heap.size, 1, none⟩ = some (.int .i64 p) := (hb1.cell (p := ⟨w.heap.size, 1, none⟩) (by simp)).trans (by go_simp)
    have HO := Lib.hid ho
    have HROW := Lib.hid hrow
    clear hb1 ho hrow
    go_wp2_with fail
    refine (HSB.out _).mono ?_
    rintro e w2 (⟨L, l, v2, ho2, rfl, hrow2, hb2⟩ | ⟨ho2, rfl, hb2⟩)
    · have HB2 := Lib.hid (HB.out.trans (hb2.mono HB.out.size))
      have hmg := mgA_some HO.out ho2
      have hF := (cyA_some HO.out).2.2
      have hF2 := (cyA_some ho2).2.2
      have hK0 := hF.lt
      have hK1 := hF.le
      have hL0 := hF2.lt
      have hL1 := hF2.le
      obtain ⟨g, cap, rfl, _, hg2, _, _, hir⟩ := ints_row HROW.out (by rw [wayL_length]; omega)
      obtain ⟨g', cap', rfl, _, hg2', _, _, hir'⟩ := ints_row hrow2 (by rw [wayL_length]; omega)
      rw [wayL_length, wayL_length]
      obtain ⟨x, hx⟩ : ∃ x : Nat → Int, (fun j => itr (nx t p) j a) = x := ⟨_, rfl⟩
      obtain ⟨y, hy⟩ : ∃ y : Nat → Int, (fun j => itr (nx t p) j b) = y := ⟨_, rfl⟩
      have HX : Hid (∀ j, j < K → w2.cell? ⟨g, j, none⟩ = some (.int .i64 (x j))) := Lib.hid (fun j hj => by
        have := (hir j (by rw [wayL_length]; exact hj)).1
        rw [wayL_at hj] at this
        rw [← hx]
        exact (hb2.cell (p := ⟨g, j, none⟩) hg2).trans this)
      have HYY : Hid (∀ j, j < L → w2.cell? ⟨g', j, none⟩ = some (.int .i64 (y j))) := Lib.hid (fun j hj => by
        have := (hir' j (by rw [wayL_length]; exact hj)).1
        rw [wayL_at hj] at this
        rw [← hy]
        exact this)
      rw [hx, hy] at hmg
      have HMG := Lib.hid hmg
      have HXE := Lib.hid (fun j => congrFun hx j)
      have hK2 : (K : Int) ≤ 1000 := by omega
      have hL2 : (L : Int) ≤ 1000 := by omega
      clear hb2 ho2 hrow2 hmg hF hF2 hir hir' hx hy d0 d1 HROW
      go_wp2_with fail
      go_loop [42] (fun i => ∃ j : Nat, j ≤ K ∧ i = .int .i64 j ∧ mgR x y L j = none) (fun i => K - (RowKit.intOf i).toNat)
      case atStart => exact ⟨0, Nat.zero_le _, rfl, rfl⟩
      case round =>
        obtain ⟨j, hj, rfl, hno⟩ := hrel
        have HNO := Lib.hid hno
        clear hno
        by_cases hlt : j < K
        · have q := HX.out j hlt
          have hlt2 : (j : Int) < (K : Int) := by omega
          have HXJ := Lib.hid (HXE.out j)
          obtain ⟨u, hu⟩ : ∃ u, x j = u := ⟨_, rfl⟩
          have HU := Lib.hid hu
          rw [hu] at q
          clear hu
          go_wp2_with fail
          go_loop [49] (fun i => ∃ m : Nat, m ≤ L ∧ i = .int .i64 m ∧ ∀ l, l < m → y l ≠ u) (fun i => L - (RowKit.intOf i).toNat)
          case atStart => exact ⟨0, Nat.zero_le _, rfl, fun l hl => by omega⟩
          case round =>
            obtain ⟨m, hm, rfl, hne⟩ := hrel
            have HNE := Lib.hid hne
            clear hne
            by_cases hml : m < L
            · have q' := HYY.out m hml
              have hml2 : (m : Int) < (L : Int) := by omega
              obtain ⟨z, hz⟩ : ∃ z, y m = z := ⟨_, rfl⟩
              have HZ := Lib.hid hz
              rw [hz] at q'
              clear hz
              by_cases he : u = z
              · have he1 : (u == z) = true := by simpa using he
                have HR : Hid (mgA t p a b = some (j, m)) := Lib.hid (by
                  rw [HMG.out]
                  exact mgR_lift (n := j + 1) hlt (mgR_hit HNO.out (by rw [HU.out]; exact pos2_of hml (by rw [HZ.out, he]) HNE.out)))
                clear he
                go_wp2_with fail
                refine bodyPost_ret (results_4 rfl _ _ _) rfl ?_
                exact ⟨HB2.out, .inl ⟨j, m, K, g, cap, HR.out, hlt, hK1, by omega, rfl, by rw [show itr (nx t p) j a = u from HXJ.out.trans HU.out]; exact q⟩⟩
              · have he1 : (u == z) = false := by simpa using he
                have HE := Lib.hid he
                clear he
                go_wp2_with fail
                exact ⟨⟨m + 1, hml, by go_num, fun l hl => by
                  by_cases e : l = m
                  · subst e; rw [HZ.out]; exact fun h => HE.out h.symm
                  · exact HNE.out l (by omega)⟩, by simp [RowKit.intOf]; omega⟩
            · obtain rfl : m = L := by omega
              have hml2 : ¬ ((m : Int) < (m : Int)) := by omega
              have HR := Lib.hid (mgR_on HNO.out (by rw [HU.out]; exact pos2_not HNE.out))
              go_wp2_with fail
              exact ⟨⟨j + 1, hlt, by go_num, HR.out⟩, by simp [RowKit.intOf]; omega⟩
        · obtain rfl : j = K := by omega
          have hlt2 : ¬ ((j : Int) < (j : Int)) := by omega
          have HR : Hid (mgA t p a b = none) := Lib.hid (by rw [HMG.out]; exact HNO.out)
          go_wp2_with fail
          refine bodyPost_ret (results_4 rfl _ _ _) rfl ?_
          exact ⟨HB2.out, .inr ⟨HR.out, rfl⟩⟩
    · have HB2 := Lib.hid (HB.out.trans (hb2.mono HB.out.size))
      have HR := Lib.hid (mgA_right (a := a) ho2)
      obtain ⟨ad, cap, rfl⟩ := HROW.out.form
      clear hb2 ho2 d0 d1
      go_wp2_with fail
      refine bodyPost_ret (results_4 rfl _ _ _) rfl ?_
      exact ⟨HB2.out, .inr ⟨HR.out, rfl⟩⟩
  · have HB := Lib.hid (HB0.out.trans (hb1.mono (by simp)))
    have d0 : w1.cell? ⟨w.heap.size, 0, none⟩ = some (.int .i64 t) := (hb1.cell (p := ⟨w.heap.size, 0, none⟩) (by simp)).trans (by go_simp)
    have d1 : w1.cell? ⟨w.heap.size, 1, none⟩ = some (.int .i64 p) := (hb1.cell (p := ⟨w.heap.size, 1, none⟩) (by simp)).trans (by go_simp)
    have HR := Lib.hid (mgA_left (b := b) ho)
    clear hb1 ho
    go_wp2_with fail
    refine (HSB.out _).mono ?_
    rintro e w2 (⟨L, l, v2, ho2, rfl, hrow2, hb2⟩ | ⟨ho2, rfl, hb2⟩)
    all_goals
      have HB2 := Lib.hid (HB.out.trans (hb2.mono HB.out.size))
      clear hb2 ho2 d0 d1
      go_wp2_with fail
      refine bodyPost_ret (results_4 rfl _ _ _) rfl ?_
      exact ⟨HB2.out, .inr ⟨HR.out, rfl⟩⟩

theorem ask_two {t p a b : Int} (h : (goodB t p && numB a && numB b) = false) : mgA t p a b = none := by
  cases hg : goodB t p
  · exact mgA_left (cyA_bad hg)
  · cases ha : numB a
    · exact mgA_left (cyA_num ha)
    · cases hb : numB b
      · exact mgA_right (cyA_num hb)
      · rw [hg, ha, hb] at h; cases h
theorem ask_two_good {t p a b : Int} (h : (goodB t p && numB a && numB b) = true) : goodB t p = true := by
  simp only [Bool.and_eq_true] at h
  exact h.1.1

set_option maxRecDepth 100000 in
set_option maxHeartbeats 4000000 in
theorem sMergeSteps (t p a b : Int) (w : World) :
    Calls Try.prog 7 #[.agg #[.int .i64 t, .int .i64 p], .int .i64 a, .int .i64 b] w (Ret3 (msA t p a b) w) := by
  have HT := Lib.hid (fun w => reTwo_any t p a b w)
  cases hq : (goodB t p && numB a && numB b)
  · have HY := Lib.hid (msA_none (ask_two hq))
    rw [hq] at HT
    clear hq
    go_enter Try.func7, Try.ntmps7
    go_wp2_with fail
    refine (HT.out _).mono ?_
    rintro e w1 ⟨rfl, hb1⟩
    obtain ⟨c0, c1, hz, hb⟩ := map_block hb1
    clear hb1
    go_wp2_with fail
    go_ret3
    exact ⟨ret_3 HY.out, hb⟩
  · have HR := Lib.hid (fun w => reMerge_any t p a b w (ask_two_good hq))
    rw [hq] at HT
    clear hq
    go_enter Try.func7, Try.ntmps7
    go_wp2_with fail
    refine (HT.out _).mono ?_
    rintro e w1 ⟨rfl, hb1⟩
    obtain ⟨c0, c1, hz, hb⟩ := map_block hb1
    clear hb1
    go_wp2_with fail
    refine (HR.out _).mono ?_
    rintro e w2 ⟨hb2, ⟨i, k, K, g, cap, ho, hiK, hK, hk, rfl, q⟩ | ⟨ho, rfl⟩⟩
    · have HB := Lib.hid (hb.trans (hb2.mono (Nat.le_of_lt hz)))
      have HY := Lib.hid (msA_some ho)
      clear hb2 hb c0 c1 ho q
      go_wp2_with fail
      go_ret3
      exact ⟨ret_3 HY.out, HB.out⟩
    · have HB := Lib.hid (hb.trans (hb2.mono (Nat.le_of_lt hz)))
      have HY := Lib.hid (msA_none ho)
      clear hb2 hb c0 c1 ho
      go_wp2_with fail
      go_ret3
      exact ⟨ret_3 HY.out, HB.out⟩

theorem ret_2p {x : Int × Bool} {a : Int} {c : Bool} (h : x = (a, c)) : Ending.returned (.tuple #[.int .i64 a, .bool c]) = .returned (.tuple #[.int .i64 x.1, .bool x.2]) := by rw [h]
set_option maxRecDepth 100000 in
set_option maxHeartbeats 4000000 in
theorem sPathsMerge (t p a b : Int) (w : World) :
    Calls Try.prog 5 #[.agg #[.int .i64 t, .int .i64 p], .int .i64 a, .int .i64 b] w (Ret2 (pmA t p a b) w) := by
  have HT := Lib.hid (fun w => reTwo_any t p a b w)
  cases hq : (goodB t p && numB a && numB b)
  · have HY := Lib.hid (pmA_none (ask_two hq))
    rw [hq] at HT
    clear hq
    go_enter Try.func5, Try.ntmps5
    go_wp2_with fail
    refine (HT.out _).mono ?_
    rintro e w1 ⟨rfl, hb1⟩
    obtain ⟨c0, c1, hz, hb⟩ := map_block hb1
    clear hb1
    go_wp2_with fail
    go_ret2
    exact ⟨ret_2p HY.out, hb⟩
  · have HR := Lib.hid (fun w => reMerge_any t p a b w (ask_two_good hq))
    rw [hq] at HT
    clear hq
    go_enter Try.func5, Try.ntmps5
    go_wp2_with fail
    refine (HT.out _).mono ?_
    rintro e w1 ⟨rfl, hb1⟩
    obtain ⟨c0, c1, hz, hb⟩ := map_block hb1
    clear hb1
    go_wp2_with fail
    refine (HR.out _).mono ?_
    rintro e w2 ⟨hb2, ⟨i, k, K, g, cap, ho, hiK, hK, hk, rfl, q⟩ | ⟨ho, rfl⟩⟩
    · have HB := Lib.hid (hb.trans (hb2.mono (Nat.le_of_lt hz)))
      have HY := Lib.hid (pmA_some ho)
      obtain ⟨x, hx⟩ : ∃ x, itr (nx t p) i a = x := ⟨_, rfl⟩
      rw [hx] at q HY
      have hi2 : (i : Int) < (K : Int) := by omega
      have hK2 : (K : Int) ≤ 1000 := by omega
      clear hb2 hb c0 c1 ho hx
      go_wp2_with fail
      go_ret2
      exact ⟨ret_2p HY.out, HB.out⟩
    · have HB := Lib.hid (hb.trans (hb2.mono (Nat.le_of_lt hz)))
      have HY := Lib.hid (pmA_none ho)
      clear hb2 hb c0 c1 ho
      go_wp2_with fail
      go_ret2
      exact ⟨ret_2p HY.out, HB.out⟩

set_option maxRecDepth 100000 in
set_option maxHeartbeats 8000000 in
theorem iMergeSteps (t p a b : Int) (w : World) :
    Calls Try.prog 6 #[.agg #[.int .i64 t, .int .i64 p], .int .i64 a, .int .i64 b] w (Ret3 (msA t p a b) w) := by
  have HWA := Lib.hid (fun w => wholePath_any t p a w)
  have HWB := Lib.hid (fun w => wholePath_any t p b w)
  have HB0 := Lib.hid ((Below.refl _ w).alloc (Nat.le_refl _) (.cells #[.int .i64 t, .int .i64 p] 23))
  go_enter Try.func6, Try.ntmps6
  go_wp2_with fail
  refine (HWA.out _).mono ?_
  rintro e w1 ⟨hb1, ⟨K, i, g, cap, ho, rfl, hpa⟩ | ⟨ho, rfl⟩⟩
  · have HB := Lib.hid (HB0.out.trans (hb1.mono (by simp)))
    have d0 : w1.cell? ⟨w.heap.size, 0, none⟩ = some (.int .i64 t) := (hb1.cell (p := ⟨w.heap.size, 0, none⟩) (by simp)).trans (by go_simp)
    have d1 : w1.cell? ⟨w.heap.size, 1, none⟩ = some (.int .i64 p) := (hb1.cell (p := ⟨w.heap.size, 1, none⟩) (by simp)).trans (by go_simp)
    have HO := Lib.hid ho
    have HPA := Lib.hid hpa
    have hgl := hpa.lt.2
    clear hb1 ho hpa
    go_wp2_with fail
    refine (HWB.out _).mono ?_
    rintro e w2 ⟨hb2, ⟨L, l, g', cap', ho2, rfl, hpa2⟩ | ⟨ho2, rfl⟩⟩
    · have HB2 := Lib.hid (HB.out.trans (hb2.mono HB.out.size))
      have hmg := mgA_full HO.out ho2
      have hF := (cyA_some HO.out).2.2
      have hF2 := (cyA_some ho2).2.2
      have hK1 := hF.le
      have hL1 := hF2.le
      have hL0 := hF2.lt
      have hyL := hF2.eq
      obtain ⟨x, hx⟩ : ∃ x : Nat → Int, (fun j => itr (nx t p) j a) = x := ⟨_, rfl⟩
      obtain ⟨y, hy⟩ : ∃ y : Nat → Int, (fun j => itr (nx t p) j b) = y := ⟨_, rfl⟩
      have HX : Hid (∀ j, j < K + 1 → w2.cell? ⟨g, j, none⟩ = some (.int .i64 (x j))) := Lib.hid (fun j hj => by
        rw [← hx]
        exact (hb2.cell (p := ⟨g, j, none⟩) hgl).trans (HPA.out.cell (by omega)))
      have HYY : Hid (∀ j, j < L + 1 → w2.cell? ⟨g', j, none⟩ = some (.int .i64 (y j))) := Lib.hid (fun j hj => by
        rw [← hy]
        exact hpa2.cell (by omega))
      have HYE : Hid (y l = y L) := Lib.hid (by rw [← hy]; exact hyL)
      rw [hx, hy] at hmg
      have HMG := Lib.hid hmg
      have HIX := Lib.hid (fun v => index_full y (L + 1) (some ⟨g', 0, none⟩) cap' v w2 (by omega) (fun j hj => ⟨g', rfl, HYY.out j hj⟩))
      have HPM := Lib.hid (fun v => pos2_more (v := v) hL0 HYE.out)
      have HPL := Lib.hid (fun v k (h : pos2 y L v = some k) => (pos2_some h).1)
      have hK2 : (K : Int) ≤ 1000 := by omega
      clear hb2 ho2 hpa2 hmg hF hF2 hx hy d0 d1 hyL HYY
      go_wp2_with fail
      go_loop [30] (fun i => ∃ j : Nat, j ≤ K + 1 ∧ i = .int .i64 j ∧ mgR x y L j = none) (fun i => K + 1 - (RowKit.intOf i).toNat)
      case atStart => exact ⟨0, Nat.zero_le _, rfl, rfl⟩
      case round =>
        obtain ⟨j, hj, rfl, hno⟩ := hrel
        have HNO := Lib.hid hno
        clear hno
        by_cases hlt : j < K + 1
        · have q := HX.out j hlt
          have hlt2 : (j : Int) < (K : Int) + 1 := by omega
          obtain ⟨u, hu⟩ : ∃ u, x j = u := ⟨_, rfl⟩
          have HU := Lib.hid hu
          rw [hu] at q
          have HIU := Lib.hid (HIX.out u)
          rw [HPM.out u] at HIU
          clear hu
          cases hp : pos2 y L u with
          | some k =>
            rw [hp] at HIU
            have hkl := HPL.out u k hp
            have HR : Hid (msA t p a b = ((j : Int), (k : Int), true)) := Lib.hid (msA_some (by
              rw [← HMG.out]
              exact mgR_lift (n := j + 1) hlt (mgR_hit HNO.out (by rw [HU.out]; exact hp))))
            dsimp only [idxP] at HIU
            clear hp
            go_wp2_with (go_at_call 18; refine HIU.out.mono ?_; rintro e w' ⟨rfl, rfl⟩)
            try go_quiet (fail)
            try go_wp2
            go_ret3
            exact ⟨ret_3 HR.out, by first | exact HB2.out | exact below_drewN HB2.out _⟩
          | none =>
            rw [hp] at HIU
            have HR := Lib.hid (mgR_on HNO.out (by rw [HU.out]; exact hp))
            dsimp only [idxP] at HIU
            clear hp
            go_wp2_with (go_at_call 18; refine HIU.out.mono ?_; rintro e w' ⟨rfl, rfl⟩)
            exact ⟨⟨j + 1, hlt, by go_num, HR.out⟩, by simp [RowKit.intOf]; omega⟩
        · obtain rfl : j = K + 1 := by omega
          have hlt2 : ¬ ((K : Int) + 1 < (K : Int) + 1) := by omega
          have HR : Hid (msA t p a b = (0, 0, false)) := Lib.hid (msA_none (by rw [← HMG.out]; exact HNO.out))
          go_wp2_with fail
          go_ret3
          exact ⟨ret_3 HR.out, HB2.out⟩
    · have HB2 := Lib.hid (HB.out.trans (hb2.mono HB.out.size))
      have HR : Hid (msA t p a b = (0, 0, false)) := Lib.hid (msA_none (mgA_right ho2))
      have hK1 := (cyA_some HO.out).2.2.le
      have HX : Hid (∀ j, j < K + 1 → w2.cell? ⟨g, j, none⟩ = some (.int .i64 (itr (nx t p) j a))) := Lib.hid (fun j hj => (hb2.cell (p := ⟨g, j, none⟩) hgl).trans (HPA.out.cell (by omega)))
      have HIX := Lib.hid (fun v => index_full (fun _ => 0) 0 none 0 v w2 (by omega) (fun j hj => by omega))
      have hK2 : (K : Int) ≤ 1000 := by omega
      clear hb2 ho2 d0 d1
      go_wp2_with fail
      go_loop [30] (fun i => ∃ j : Nat, j ≤ K + 1 ∧ i = .int .i64 j) (fun i => K + 1 - (RowKit.intOf i).toNat)
      case atStart => exact ⟨0, Nat.zero_le _, rfl⟩
      case round =>
        obtain ⟨j, hj, rfl⟩ := hrel
        by_cases hlt : j < K + 1
        · have q := HX.out j hlt
          have hlt2 : (j : Int) < (K : Int) + 1 := by omega
          obtain ⟨u, hu⟩ : ∃ u, itr (nx t p) j a = u := ⟨_, rfl⟩
          rw [hu] at q
          have HIU := Lib.hid (HIX.out u)
          rw [show pos2 (fun _ => 0) 0 u = none from rfl] at HIU
          dsimp only [idxP] at HIU
          clear hu
          go_wp2_with (go_at_call 18; refine HIU.out.mono ?_; rintro e w' ⟨rfl, rfl⟩)
          exact ⟨⟨j + 1, hlt, by go_num⟩, by simp [RowKit.intOf]; omega⟩
        · obtain rfl : j = K + 1 := by omega
          have hlt2 : ¬ ((K : Int) + 1 < (K : Int) + 1) := by omega
          go_wp2_with fail
          go_ret3
          exact ⟨ret_3 HR.out, HB2.out⟩
  · have HB := Lib.hid (HB0.out.trans (hb1.mono (by simp)))
    have d0 : w1.cell? ⟨w.heap.size, 0, none⟩ = some (.int .i64 t) := (hb1.cell (p := ⟨w.heap.size, 0, none⟩) (by simp)).trans (by go_simp)
    have d1 : w1.cell? ⟨w.heap.size, 1, none⟩ = some (.int .i64 p) := (hb1.cell (p := ⟨w.heap.size, 1, none⟩) (by simp)).trans (by go_simp)
    have HR : Hid (msA t p a b = (0, 0, false)) := Lib.hid (msA_none (mgA_left ho))
    clear hb1 ho
    go_wp2_with fail
    refine (HWB.out _).mono ?_
    rintro e w2 ⟨hb2, ⟨L, l, g', cap', ho2, rfl, hpa2⟩ | ⟨ho2, rfl⟩⟩
    all_goals
      have HB2 := Lib.hid (HB.out.trans (hb2.mono HB.out.size))
      clear hb2 ho2 d0 d1
      go_wp2_with fail
      refine wp_loop_rounds 1 ?_
      rw [rounds_succ]
      go_wp2_with fail
      go_ret3
      exact ⟨ret_3 HR.out, HB2.out⟩

set_option maxRecDepth 100000 in
set_option maxHeartbeats 4000000 in
theorem iPathsMerge (t p a b : Int) (w : World) :
    Calls Try.prog 4 #[.agg #[.int .i64 t, .int .i64 p], .int .i64 a, .int .i64 b] w (Ret2 (pmA t p a b) w) := by
  have HMS := Lib.hid (fun w => iMergeSteps t p a b w)
  have HB0 := Lib.hid ((Below.refl _ w).alloc (Nat.le_refl _) (.cells #[.int .i64 t, .int .i64 p] 23))
  cases ho : mgA t p a b with
  | none =>
    have HY := Lib.hid (pmA_none ho)
    rw [msA_none ho] at HMS
    clear ho
    go_enter Try.func4, Try.ntmps4
    go_wp2_with fail
    refine (HMS.out _).mono ?_
    rintro e w1 ⟨rfl, hb1⟩
    have HB := Lib.hid (HB0.out.trans (hb1.mono (by simp)))
    clear hb1
    go_wp2_with fail
    go_ret2
    exact ⟨ret_2p HY.out, HB.out⟩
  | some r =>
    obtain ⟨i, k⟩ := r
    have HY := Lib.hid (pmA_some ho)
    have haft : aft t p (nx t p) a (i : Int) = (itr (nx t p) i a, true) := by
      cases ha : cyA t p a with
      | none => rw [mgA_left ha] at ho; cases ho
      | some x =>
        obtain ⟨K, c⟩ := x
        cases hb : cyA t p b with
        | none => rw [mgA_right hb] at ho; cases ho
        | some y =>
          obtain ⟨L, d⟩ := y
          rw [mgA_some ha hb] at ho
          have := (mgR_lt ho).1
          exact aft_fnd ha (by dsimp only at this; omega)
    have HN := Lib.hid (fun w => iNumberAfter t p a (i : Int) w)
    rw [haft] at HN
    rw [msA_some ho] at HMS
    clear ho haft
    go_enter Try.func4, Try.ntmps4
    go_wp2_with fail
    refine (HMS.out _).mono ?_
    rintro e w1 ⟨rfl, hb1⟩
    have HB := Lib.hid (HB0.out.trans (hb1.mono (by simp)))
    have d0 : w1.cell? ⟨w.heap.size, 0, none⟩ = some (.int .i64 t) := (hb1.cell (p := ⟨w.heap.size, 0, none⟩) (by simp)).trans (by go_simp)
    have d1 : w1.cell? ⟨w.heap.size, 1, none⟩ = some (.int .i64 p) := (hb1.cell (p := ⟨w.heap.size, 1, none⟩) (by simp)).trans (by go_simp)
    clear hb1
    go_wp2_with fail
    refine (HN.out _).mono ?_
    rintro e w2 ⟨rfl, hb2⟩
    have HB2 := Lib.hid (HB.out.trans (hb2.mono HB.out.size))
    clear hb2 d0 d1
    go_wp2_with fail
    go_ret2
    exact ⟨ret_2p HY.out, HB2.out⟩
end Go.Proofs.Ytjcpdlamgjpmmaf
