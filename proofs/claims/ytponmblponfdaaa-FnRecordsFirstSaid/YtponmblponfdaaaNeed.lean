/-
  WHAT A NUMBER NEEDS: 'reNeeds', 'StepsNeeded', 'reLimit', 'reList' of the model, 'StepsNeeded' of the program.
-/
import Derived.Test.YtponmblponfdaaaCycS
import Derived.Test.YtponmblponfdaaaLost
import Derived.Test.YtponmblponfdaaaSpec
import Derived.Deep.RegionWith
namespace Go.Proofs.Ytponmblponfdaaa
open Go.RowKit
set_option linter.unusedVariables false

/-- Behind how many steps a number first comes to the least one of its cycle, or -1. -/
def needN (t p n : Int) : Int := match cyA t p n with
  | some (K, i) => ((i + leastJ (nx t p) n K i : Nat) : Int)
  | none => -1
theorem needN_some {t p n : Int} {K i : Nat} (h : cyA t p n = some (K, i)) : needN t p n = ((i + leastJ (nx t p) n K i : Nat) : Int) := by rw [needN, h]
theorem needN_none {t p n : Int} (h : cyA t p n = none) : needN t p n = -1 := by rw [needN, h]
theorem needN_bound (t p n : Int) : -1 ≤ needN t p n ∧ needN t p n ≤ 1000 := by
  cases h : cyA t p n with
  | none => rw [needN_none h]; decide
  | some x =>
    obtain ⟨K, i⟩ := x
    have hF := (cyA_some h).2.2
    have h1 := leastJ_lt (f := nx t p) (n := n) hF.lt
    have h2 := hF.le
    rw [needN_some h]
    omega
theorem needN_neg {t p n : Int} : needN t p n = -1 ↔ cyA t p n = none := by
  constructor
  · intro e
    cases h : cyA t p n with
    | none => rfl
    | some x => obtain ⟨K, i⟩ := x; rw [needN_some h] at e; omega
  · exact needN_none
/-- The first number of the cycle told from its least number on. -/
theorem cyL_head {t p n : Int} {K i : Nat} (h : cyA t p n = some (K, i)) : (cyL t p n).getD 0 0 = itr (nx t p) (i + leastJ (nx t p) n K i) n := by
  have hF := (cyA_some h).2.2
  have := hF.lt
  rw [cyL_some h, cycT, cycFrom, List.getD_eq_getElem?_getD, List.getElem?_map, List.getElem?_range (by omega)]
  rfl
theorem sto_need {t p n : Int} {K i : Nat} (h : cyA t p n = some (K, i)) : sto t p n (itr (nx t p) (i + leastJ (nx t p) n K i) n) = (needN t p n, true) := by
  obtain ⟨hg, _, hF⟩ := cyA_some h
  have h1 := leastJ_lt (f := nx t p) (n := n) hF.lt
  have h2 := hF.le
  obtain ⟨P, hP⟩ : ∃ P, i + leastJ (nx t p) n K i = P := ⟨_, rfl⟩
  have hPK : P < K := by omega
  rw [needN_some h, hP]
  refine hit_some (pre := upto (nx t p) n P) (x := ((P : Int), itr (nx t p) P n)) ?_ (by simp) ?_
  · intro y hy
    obtain ⟨j, hj, rfl⟩ := mem_upto hy
    simpa using hF.diff j P hj hPK
  · rw [← upto_succ, seqOf, if_pos hg]
    exact upto_prefix _ _ ((lt_cnt _ _ _ _).2 ⟨by omega, allB_le (by omega) hF.all⟩)

set_option maxRecDepth 100000 in
set_option maxHeartbeats 4000000 in
theorem reNeeds_any (t p n : Int) (w : World) (hg : goodB t p = true) :
    Calls Try.prog 58 #[.agg #[.int .i64 t, .int .i64 p], .int .i64 n] w fun e w' => e = .returned (.int .i64 (needN t p n)) ∧ Below w.heap.size w w' := by
  have HS := Lib.hid (fun w => cyFind_any t p n w hg)
  have hcg := cyA_good (n := n) hg
  rw [← hcg] at HS
  have HB0 := Lib.hid ((Below.refl _ w).alloc (Nat.le_refl _) (.cells #[.int .i64 t, .int .i64 p] 25))
  clear hg hcg
  go_enter Try.func58, Try.ntmps58
  go_wp2_with fail
  refine (HS.out _).mono ?_
  rintro e w2 (⟨K, i, v, ho, rfl, hrow, hb2⟩ | ⟨ho, rfl, hb2⟩)
  · have HB := Lib.hid (HB0.out.trans (hb2.mono (by simp)))
    obtain ⟨_, _, hF⟩ := cyA_some ho
    have hlt := hF.lt
    have hle := hF.le
    have hlj := leastJ_lt (f := nx t p) (n := n) hF.lt
    obtain ⟨g, cap, rfl, hg1, hg2, hcap, hcm, hir⟩ := ints_row hrow (by rw [wayL_length]; omega)
    rw [wayL_length] at hcap ⊢
    obtain ⟨L, hL⟩ : ∃ L, K - i = L + 1 := ⟨K - i - 1, by omega⟩
    have HT := Lib.hid (fun w h1 h2 => cyTurn_path t p n K i L g cap w hF hL h1 h2 hcap hcm)
    have HIR := Lib.hid hir
    have HY := Lib.hid (needN_some ho)
    have HH := Lib.hid (cyL_head ho)
    rw [cyL_some ho] at HH
    have HD := Lib.hid hF.diff
    have hi1 : (i : Int) ≤ (K : Int) := by omega
    have hi2 : (K : Int) ≤ (cap : Int) := by omega
    have hi3 : (i : Int) ≤ (cap : Int) := by omega
    have hi4 : (cap : Int) ≤ 9223372036854775807 := by unfold maxLen at hcm; omega
    have hci : ¬ (cap = i) := by omega
    obtain ⟨P, hP⟩ : ∃ P, i + leastJ (nx t p) n K i = P := ⟨_, rfl⟩
    rw [hP] at HY HH
    have hPK : P < K := by omega
    have HLEN := Lib.hid (cycT_length (nx t p) n K i)
    clear hrow hb2 hF hir ho hP hlj
    go_wp2_with fail
    refine (HT.out _ HIR.out hg2).mono ?_
    rintro e w3 ⟨v3, rfl, hr3, hb3⟩
    have HB3 := Lib.hid (HB.out.trans (hb3.mono HB.out.size))
    obtain ⟨g3, cap3, rfl, _, hg3, _, _, hir3⟩ := ints_row hr3 (by rw [HLEN.out]; omega)
    have q3 := (hir3 0 (by rw [HLEN.out]; omega)).1
    rw [HH.out] at q3
    rw [HLEN.out, hL]
    have HIR3 : Hid (∀ j, j < K → w3.cell? ⟨g, j, none⟩ = some (.int .i64 (itr (nx t p) j n))) := Lib.hid (fun j hj => by
      have := (HIR.out j (by rw [wayL_length]; exact hj)).1
      rw [wayL_at hj] at this
      exact (hb3.cell (p := ⟨g, j, none⟩) hg2).trans this)
    obtain ⟨x0, hx0⟩ : ∃ x0, itr (nx t p) P n = x0 := ⟨_, rfl⟩
    rw [hx0] at q3
    have HX0 := Lib.hid hx0
    have hL0 : (0 : Int) < (L : Int) + 1 := by omega
    clear hr3 hb3 hir3 hx0
    go_wp2_with fail
    go_loop [28] (fun x => ∃ j : Nat, j ≤ P ∧ x = .int .i64 j) (fun x => K - (RowKit.intOf x).toNat)
    case atStart => exact ⟨0, Nat.zero_le _, rfl⟩
    case round =>
      obtain ⟨j, hj, rfl⟩ := hrel
      have q := HIR3.out j (by omega)
      have hlt2 : (j : Int) < (K : Int) := by omega
      by_cases e : j = P
      · subst e
        rw [HX0.out] at q
        go_wp2_with fail
        go_ret
        exact ⟨by rw [HY.out]; rfl, HB3.out⟩
      · have hne : itr (nx t p) j n ≠ x0 := by rw [← HX0.out]; exact HD.out j P (by omega) hPK
        obtain ⟨x, hx⟩ : ∃ x, itr (nx t p) j n = x := ⟨_, rfl⟩
        rw [hx] at q hne
        have hne2 : (x == x0) = false := by simpa using hne
        clear hx hne
        go_wp2_with fail
        exact ⟨⟨j + 1, by omega, by go_num⟩, by simp [RowKit.intOf]; omega⟩
  · have HB := Lib.hid (HB0.out.trans (hb2.mono (by simp)))
    have HY := Lib.hid (needN_none ho)
    clear hb2 ho
    go_wp2_with fail
    go_ret
    exact ⟨by rw [HY.out]; rfl, HB.out⟩

/-- What StepsNeeded comes to. -/
def ndA (t p n : Int) : Int := if (cyA t p n).isSome = true then needN t p n else 0
theorem ret_nd {x : Int} {f : Bool} {a : Int} {g : Bool} (h : x = a) (h' : f = g) : Ending.returned (.tuple #[.int .i64 a, .bool g]) = .returned (.tuple #[.int .i64 x, .bool f]) := by rw [h, h']
set_option maxRecDepth 100000 in
set_option maxHeartbeats 4000000 in
theorem iStepsNeeded (t p n : Int) (w : World) :
    Calls Try.prog 22 #[.agg #[.int .i64 t, .int .i64 p], .int .i64 n] w fun e w' => e = .returned (.tuple #[.int .i64 (ndA t p n), .bool (cyA t p n).isSome]) ∧ Below w.heap.size w w' := by
  have HC := Lib.hid (fun w => iCycleOf t p n w)
  have HB0 := Lib.hid ((Below.refl _ w).alloc (Nat.le_refl _) (.cells #[.int .i64 t, .int .i64 p] 25))
  cases ho : cyA t p n with
  | none =>
    have HY : Hid (ndA t p n = 0) := Lib.hid (by rw [ndA, ho]; rfl)
    rw [ho] at HC
    clear ho
    go_enter Try.func22, Try.ntmps22
    go_wp2_with fail
    refine (HC.out _).mono ?_
    rintro e w1 ⟨v, rfl, hrow, hb1⟩
    have HB := Lib.hid (HB0.out.trans (hb1.mono (by simp)))
    clear hb1 hrow
    dsimp only [Option.isSome]
    go_wp2_with fail
    go_ret2
    exact ⟨ret_nd HY.out rfl, HB.out⟩
  | some x =>
    obtain ⟨K, i⟩ := x
    have HY : Hid (ndA t p n = needN t p n) := Lib.hid (by rw [ndA, ho]; rfl)
    have HST := Lib.hid (sto_need ho)
    have hh := cyL_head ho
    have hlen : 0 < (cyL t p n).length := by
      rw [cyL_some ho, cycT_length]
      have := (cyA_some ho).2.2.lt
      omega
    have hlen2 := cyL_len t p n
    rw [ho] at HC
    obtain ⟨x0, hx0⟩ : ∃ x0, itr (nx t p) (i + leastJ (nx t p) n K i) n = x0 := ⟨_, rfl⟩
    rw [hx0] at HST hh
    have HI := Lib.hid (fun w => iStepsTo t p n x0 w)
    rw [HST.out] at HI
    clear ho hx0 HST
    obtain ⟨xs, hxs⟩ : ∃ xs, cyL t p n = xs := ⟨_, rfl⟩
    rw [hxs] at HC hh hlen hlen2
    clear hxs
    go_enter Try.func22, Try.ntmps22
    go_wp2_with fail
    refine (HC.out _).mono ?_
    rintro e w1 ⟨v, rfl, hrow, hb1⟩
    have HB := Lib.hid (HB0.out.trans (hb1.mono (by simp)))
    have d0 : w1.cell? ⟨w.heap.size, 0, none⟩ = some (.int .i64 t) := (hb1.cell (p := ⟨w.heap.size, 0, none⟩) (by simp)).trans (by go_simp)
    have d1 : w1.cell? ⟨w.heap.size, 1, none⟩ = some (.int .i64 p) := (hb1.cell (p := ⟨w.heap.size, 1, none⟩) (by simp)).trans (by go_simp)
    obtain ⟨g, cap, rfl, _, hg2, hcap, hcm, hir⟩ := ints_row hrow hlen
    have q := (hir 0 hlen).1
    rw [hh] at q
    obtain ⟨L, hL⟩ : ∃ L, xs.length = L + 1 := ⟨xs.length - 1, by omega⟩
    rw [hL]
    have hL2 : (L : Int) ≤ 1000 := by omega
    have hL0 : (0 : Int) < (L : Int) + 1 := by omega
    dsimp only [Option.isSome]
    clear hb1 hrow hir hcm hcap hh hlen hlen2 hL
    go_wp2_with fail
    go_region_with (go_at_call 49; refine (HI.out _).mono ?_; rintro e w3 ⟨rfl, hb3⟩; have HB3 : Hid (Below w.heap.size w w3) := (by first | exact Lib.hid (HB.out.trans (hb3.mono HB.out.size)) | exact Lib.hid (HB.out.drew.trans (hb3.mono HB.out.size)) | exact Lib.hid (HB.out.drew.drew.trans (hb3.mono HB.out.size))))
    all_goals
      try go_wp2
      go_ret2
      exact ⟨ret_nd HY.out rfl, by first | exact HB3.out | exact HB3.out.drew⟩

theorem reLimit_any (t p k : Int) (w : World) :
    Calls Try.prog 38 #[.agg #[.int .i64 t, .int .i64 p], .int .i64 k] w fun e w' => e = .returned (.bool (askL t p k)) ∧ Below w.heap.size w w' := by
  have HM := Lib.hid (fun w => mpGood_any t p w)
  have HI := Lib.hid (fun w => l1In_any k 1 300 w)
  cases hg : goodB t p
  · have HA : Hid (askL t p k = false) := Lib.hid (by rw [askL, hg]; rfl)
    rw [hg] at HM
    clear hg
    go_enter Try.func38, Try.ntmps38
    go_wp2_with fail
    refine (HM.out _).mono ?_
    rintro e w1 ⟨rfl, hb1⟩
    obtain ⟨c0, c1, hz, hb⟩ := map_block hb1
    clear hb1
    go_wp2_with fail
    go_ret
    exact ⟨ret_bool HA.out.symm, hb⟩
  · have HA : Hid (askL t p k = inB k 1 300) := Lib.hid (by rw [askL, hg]; rfl)
    rw [hg] at HM
    clear hg
    go_enter Try.func38, Try.ntmps38
    go_wp2_with fail
    refine (HM.out _).mono ?_
    rintro e w1 ⟨rfl, hb1⟩
    obtain ⟨c0, c1, hz, hb⟩ := map_block hb1
    clear hb1
    go_wp2_with (go_at_call 53; refine (HI.out _).mono ?_; rintro e w' ⟨rfl, rfl⟩)
    go_ret
    exact ⟨ret_bool HA.out.symm, hb⟩

/-- What the numbers 1, 2, .. have. -/
def tabL (g : Int → Int) (K : Nat) : List Int := (List.range K).map fun (j : Nat) => g ((j : Int) + 1)
theorem tabL_length (g : Int → Int) (K : Nat) : (tabL g K).length = K := by simp [tabL]
theorem tabL_succ (g : Int → Int) (K : Nat) : tabL g (K + 1) = tabL g K ++ [g ((K : Int) + 1)] := by simp [tabL, List.range_succ]
theorem tabL_at {g : Int → Int} {K j : Nat} (h : j < K) : (tabL g K).getD j 0 = g ((j : Int) + 1) := by
  simp [tabL, List.getD_eq_getElem?_getD, h]
/-- If there are a map and a limit. -/
def tabA (g : Int → Int → Int → Int) (t p k : Int) : List Int := if askL t p k = true then tabL (g t p) k.toNat else []
theorem tabA_no {g : Int → Int → Int → Int} {t p k : Int} (h : askL t p k = false) : tabA g t p k = [] := by rw [tabA, if_neg (by simp [h])]
theorem tabA_yes {g : Int → Int → Int → Int} {t p : Int} {K : Nat} (h : askL t p K = true) : tabA g t p K = tabL (g t p) K := by rw [tabA, if_pos h]; rfl
theorem askL_yes {t p k : Int} (h : askL t p k = true) : ∃ K : Nat, k = K ∧ 1 ≤ K ∧ K ≤ 300 ∧ goodB t p = true := by
  simp only [askL, inB, Bool.and_eq_true, decide_eq_true_eq] at h
  exact ⟨k.toNat, by omega, by omega, by omega, h.1⟩
theorem tabA_len (g : Int → Int → Int → Int) (t p k : Int) : (tabA g t p k).length ≤ 300 := by
  unfold tabA
  split
  · rename_i h
    obtain ⟨K, rfl, _, h2, _⟩ := askL_yes h
    rw [tabL_length]
    exact h2
  · simp
/-- What a call that makes a list hands back. -/
def RetList (xs : List Int) (w : World) (e : Ending) (w' : World) : Prop := ∃ v, e = .returned v ∧ IntsAt w' w.heap.size v xs ∧ Below w.heap.size w w'

set_option maxRecDepth 100000 in
set_option maxHeartbeats 4000000 in
theorem reList_any (t p : Int) (K : Nat) (w : World) (hg : goodB t p = true) (hK : K ≤ 300) :
    Calls Try.prog 40 #[.agg #[.int .i64 t, .int .i64 p], .int .i64 (K : Int)] w (RetList (tabL (needN t p) K) w) := by
  obtain ⟨i0, hi, hi0, hi1, hi2⟩ := info_parts info3
  have HR := Lib.hid (fun n w => reNeeds_any t p n w hg)
  have HB0 := Lib.hid ((Below.refl _ w).alloc (Nat.le_refl _) (.cells #[.int .i64 t, .int .i64 p] 25))
  have hK2 : (K : Int) ≤ 300 := by omega
  clear hg
  go_enter Try.func40, Try.ntmps40
  go_wp2_with fail
  go_loopw [5, 6] (fun v i wr => ∃ j : Nat, j ≤ K ∧ i = .int .i64 ((j : Int) + 1) ∧ wr.ownsRow (w.heap.size + 1) 3 1 v j ((tabL (needN t p) j).map (Value.int .i64)) ∧ wr.cell? ⟨w.heap.size, 0, none⟩ = some (.int .i64 t) ∧ wr.cell? ⟨w.heap.size, 1, none⟩ = some (.int .i64 p) ∧ w.heap.size < wr.heap.size ∧ Below w.heap.size w wr) (fun _ i _ => K + 1 - (RowKit.intOf i).toNat)
  case atStart => exact ⟨0, Nat.zero_le _, rfl, World.ownsRow_nil _ _ _ _, by go_simp, by go_simp, by simp, HB0.out⟩
  case round =>
    obtain ⟨j, hj, rfl, hown, c0, c1, hz, hbel⟩ := hrel
    have HO := Lib.hid hown
    have HB := Lib.hid hbel
    clear hown hbel
    by_cases hlt : j < K
    · have hlt2 : (j : Int) + 1 ≤ (K : Int) := by omega
      have HRJ := Lib.hid (fun w => HR.out ((j : Int) + 1) w)
      have HTS := Lib.hid (tabL_succ (needN t p) j)
      obtain ⟨x, hx⟩ : ∃ x, needN t p ((j : Int) + 1) = x := ⟨_, rfl⟩
      rw [hx] at HRJ HTS
      have hj3 : j + 1 ≤ maxLen := by unfold maxLen; omega
      clear hx
      go_wp2_with fail
      refine (HRJ.out _).mono ?_
      rintro e w2 ⟨rfl, hb2⟩
      have d0 := kept_cell hb2 hz c0
      have d1 := kept_cell hb2 hz c1
      have hz2 := Nat.lt_of_lt_of_le hz hb2.size
      have HB2 := Lib.hid (HB.out.trans (hb2.mono (Nat.le_of_lt hz)))
      have HO2 := Lib.hid (ownsRow_kept HO.out hb2)
      clear hb2 c0 c1 HO
      go_wp2_with (at_builtin; refine wpList_append_own _ rfl _ _ 31 rfl (w.heap.size + 1) 3 i0 (.int .i64 0) 1 8 Try.underlying31 hi hi0 hi1 hi2 rfl (by decide) _ _ _ rfl (HO2.out.alloc _) ⟨w2.heap.size, 0, none⟩ 1 1 [.int .i64 x] rfl rfl (fun j u hu => new_cell _ _ _ hu) (by simp [Value.oneCell']) hj3 (by omega) (by simp; omega) ?_; intro v5 w5 hown5 hgrow5 _; have hbg : Below (w.heap.size + 1) w2 w5 := ((Below.refl (w.heap.size + 1) w2).alloc (by omega) _).grown hgrow5 (by simp; omega) (fun k e => (HO2.out.lt k e).1); have e0 := (hbg.cell (p := ⟨w.heap.size, 0, none⟩) (Nat.lt_succ_self _)).trans d0; have e1 := (hbg.cell (p := ⟨w.heap.size, 1, none⟩) (Nat.lt_succ_self _)).trans d1; have hz5 : w.heap.size < w5.heap.size := Nat.lt_of_lt_of_le hz2 hbg.size; have HB5 := Lib.hid (HB2.out.trans (hbg.mono (Nat.le_succ _))); have HO5 := Lib.hid hown5; clear hown5 hgrow5 hbg d0 d1)
      refine ⟨⟨j + 1, hlt, by go_num, ?_, e0, e1, hz5, HB5.out⟩, by simp [RowKit.intOf]; omega⟩
      rw [HTS.out, List.map_append]
      exact HO5.out
    · obtain rfl : j = K := by omega
      have hlt2 : ¬ ((j : Int) + 1 ≤ (j : Int)) := by omega
      have HFIN : Hid (∀ v, wr.ownsRow (w.heap.size + 1) 3 1 v j ((tabL (needN t p) j).map (Value.int .i64)) → IntsAt wr w.heap.size v (tabL (needN t p) j)) := Lib.hid (fun v h => by
        rw [IntsAt, tabL_length]
        exact ownsRow_base h (Nat.le_succ _))
      go_wp2_with fail
      go_ret
      exact ⟨_, rfl, HFIN.out _ HO.out, HB.out⟩
end Go.Proofs.Ytponmblponfdaaa
