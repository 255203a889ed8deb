/-
  'SumOfPath' of both.
-/
import Derived.Test.YtebbafapcknllaaPathOf
namespace Go.Proofs.Ytebbafapcknllaa
open Go.RowKit
set_option linter.unusedVariables false

/-- The sum of the first k numbers of a way. -/
def sumTo (f : Int → Int) (n : Int) : Nat → Int
  | 0 => 0
  | k + 1 => sumTo f n k + itr f k n
theorem sumTo_bound {f : Int → Int} {n : Int} {k : Nat} (h : allB f n k = true) : -(1000000000000 * (k : Int)) ≤ sumTo f n k ∧ sumTo f n k ≤ 1000000000000 * (k : Int) := by
  induction k with
  | zero => simp [sumTo]
  | succ k ih =>
    have hv := numB_iff.1 (allB_at (Nat.lt_succ_self k) h)
    have := ih (allB_le (Nat.le_succ k) h)
    rw [sumTo]
    omega
/-- What SumOfPath comes to. -/
def som (t p n k : Int) : Int × Bool := if (aft t p (nx t p) n k).2 = true ∧ numB (sumTo (nx t p) n (k.toNat + 1)) = true then (sumTo (nx t p) n (k.toNat + 1), true) else (0, false)
theorem path_yes (t p n : Int) (K : Nat) (w : World) (ha : (aft t p (nx t p) n K).2 = true) :
    Calls Try.prog 39 #[.agg #[.int .i64 t, .int .i64 p, .int .i64 n], .int .i64 (K : Int)] w (YesPath (nx t p) n K w) :=
  (path_any t p n K w).mono fun e w' h => h.yes (by rw [pathIf, if_pos ha]; rfl) ha
theorem path_no (t p n k : Int) (w : World) (ha : (aft t p (nx t p) n k).2 = false) :
    Calls Try.prog 39 #[.agg #[.int .i64 t, .int .i64 p, .int .i64 n], .int .i64 k] w fun e w' => e = .returned (.tuple #[.slice none 0 0, .bool false]) ∧ Below w.heap.size w w' :=
  (path_any t p n k w).mono fun e w' h => h.no (by rw [pathIf, ha]; rfl) ha
theorem aft_yes {t p n k : Int} {f : Int → Int} (h : (aft t p f n k).2 = true) : ∃ K : Nat, k = K ∧ K ≤ 1000 ∧ goodB t p = true ∧ numB n = true ∧ allB f n (K + 1) = true ∧ askB t p n k = true := by
  rw [aft_two, Bool.and_eq_true] at h
  obtain ⟨hg, hn, h0, h1⟩ := askB_iff.1 h.1
  exact ⟨k.toNat, by omega, by omega, hg, hn, h.2, h.1⟩

set_option maxRecDepth 100000 in
set_option maxHeartbeats 1000000 in
theorem iSumOfPath (t p n k : Int) (w : World) :
    Calls Try.prog 18 #[.agg #[.int .i64 t, .int .i64 p], .int .i64 n, .int .i64 k] w fun e w' => e = .returned (.tuple #[.int .i64 (som t p n k).1, .bool (som t p n k).2]) ∧ Below w.heap.size w w' := by
  by_cases ha : (aft t p (nx t p) n k).2 = true
  · obtain ⟨K, rfl, hK, hg, hn, hall, hask⟩ := aft_yes ha
    have HA := Lib.hid ha
    have HALL := Lib.hid hall
    have hK2 : (K : Int) ≤ 1000 := by omega
    clear hg hn hask ha hall
    go_enter Try.func18, Try.ntmps18
    go_wp2_with fail
    refine (path_yes t p n K _ HA.out).mono ?_
    rintro e w2 ⟨g, cap, rfl, hrow, hb2⟩
    have hbb := ((Below.refl _ w).alloc (Nat.le_refl _) _).trans (hb2.mono (by simp))
    have HR := Lib.hid hrow
    clear hrow hb2
    go_wp2_with fail
    go_loop [10, 23] (fun s i => ∃ j : Nat, j ≤ K + 1 ∧ i = .int .i64 j ∧ s = .int .i64 (sumTo (nx t p) n j)) (fun _ i => K + 1 - (intOf i).toNat)
    case atStart => exact ⟨0, by omega, rfl, rfl⟩
    case round =>
      obtain ⟨j, hj, rfl, rfl⟩ := hrel
      have hsb := sumTo_bound (allB_le hj HALL.out)
      have s1 : -1001000000000000 ≤ sumTo (nx t p) n j := by omega
      have s2 : sumTo (nx t p) n j ≤ 1001000000000000 := by omega
      clear hsb
      by_cases hlt : j < K + 1
      · have q := HR.out.cell (j := j) (by omega)
        have hv := numB_iff.1 (allB_at hlt HALL.out)
        obtain ⟨v1, v2⟩ := hv
        have hst : sumTo (nx t p) n (j + 1) = sumTo (nx t p) n j + itr (nx t p) j n := rfl
        have HST := Lib.hid hst
        clear hst
        have hi1 : (j : Int) < (K : Int) + 1 := by omega
        go_wp2
        refine ⟨⟨j + 1, hlt, by go_num, by rw [HST.out]⟩, by simp [intOf]; omega⟩
      · obtain rfl : j = K + 1 := by omega
        by_cases hs : numB (sumTo (nx t p) n (K + 1)) = true
        · have hf : som t p n K = (sumTo (nx t p) n (K + 1), true) := by rw [som, if_pos ⟨HA.out, hs⟩]; rfl
          have HF := Lib.hid hf
          have hi1 : ¬ ((K : Int) + 1 < (K : Int) + 1) := by omega
          clear hf
          go_wp2_with (go_at_call 46; refine (isNumber_any _ _).mono ?_; rintro e w' ⟨rfl, rfl⟩)
          go_ret2
          exact ⟨ret_pair HF.out, hbb⟩
        · have hs' : numB (sumTo (nx t p) n (K + 1)) = false := by simpa using hs
          have hf : som t p n K = (0, false) := by rw [som, if_neg (fun h => hs h.2)]
          have HF := Lib.hid hf
          clear hf hs
          go_wp2_with (go_at_call 46; refine (isNumber_any _ _).mono ?_; rintro e w' ⟨rfl, rfl⟩)
          go_ret2
          exact ⟨ret_pair HF.out, hbb⟩
  · have ha' : (aft t p (nx t p) n k).2 = false := by simpa using ha
    have hf : som t p n k = (0, false) := by rw [som, if_neg (fun h => ha h.1)]
    have HF := Lib.hid hf
    have HA := Lib.hid ha'
    clear hf ha ha'
    go_enter Try.func18, Try.ntmps18
    go_wp2_with fail
    refine (path_no t p n k _ HA.out).mono ?_
    rintro e w2 ⟨rfl, hb2⟩
    have hbb := ((Below.refl _ w).alloc (Nat.le_refl _) _).trans (hb2.mono (by simp))
    clear hb2
    go_wp2_with fail
    refine wp_loop_rounds 1 ?_
    rw [rounds_succ]
    go_wp2
    go_ret2
    exact ⟨ret_pair HF.out, hbb⟩

set_option maxRecDepth 100000 in
set_option maxHeartbeats 1000000 in
theorem sSumOfPath (t p n k : Int) (w : World) :
    Calls Try.prog 19 #[.agg #[.int .i64 t, .int .i64 p], .int .i64 n, .int .i64 k] w fun e w' => e = .returned (.tuple #[.int .i64 (som t p n k).1, .bool (som t p n k).2]) ∧ Below w.heap.size w w' := by
  by_cases hask : askB t p n k = true
  · obtain ⟨hg, hn, hk0, hk1⟩ := askB_iff.1 hask
    obtain ⟨K, rfl⟩ : ∃ K : Nat, k = K := ⟨k.toNat, by omega⟩
    have hK : K ≤ 1000 := by omega
    have hK2 : (K : Int) ≤ 1000 := by omega
    have h2 : (aft t p (nx t p) n K).2 = allB (nx t p) n (K + 1) := by rw [aft_two, hask]; rfl
    have H2 := Lib.hid h2
    have HG := Lib.hid hg
    have HN := Lib.hid hn
    clear h2 hg hn
    by_cases hall : allB (nx t p) n (K + 1) = true
    · have HALL := Lib.hid hall
      clear hall
      go_enter Try.func19, Try.ntmps19
      go_wp2_with (go_at_call 37; refine (mpAsked_any _ _ _ _ _).mono ?_; rintro e w1 ⟨rfl, hb1⟩; obtain ⟨c0, c1, hz, hb⟩ := map_block hb1; clear hb1)
      refine (mpPath_yes t p n K _ HG.out HN.out hK HALL.out).mono ?_
      rintro e w2 ⟨g, cap, rfl, hrow, hb2⟩
      have hbb := hb.trans (hb2.mono (Nat.le_of_lt hz))
      have HR := Lib.hid hrow
      clear hrow hb2 c0 c1
      go_wp2_with fail
      go_loop [10, 29] (fun s i => ∃ j : Nat, j ≤ K + 1 ∧ i = .int .i64 j ∧ s = .int .i64 (sumTo (nx t p) n j)) (fun _ i => K + 1 - (intOf i).toNat)
      case atStart => exact ⟨0, by omega, rfl, rfl⟩
      case round =>
        obtain ⟨j, hj, rfl, rfl⟩ := hrel
        have hsb := sumTo_bound (allB_le hj HALL.out)
        have s1 : -1001000000000000 ≤ sumTo (nx t p) n j := by omega
        have s2 : sumTo (nx t p) n j ≤ 1001000000000000 := by omega
        clear hsb
        by_cases hlt : j < K + 1
        · have q := HR.out.cell (j := j) (by omega)
          have hv := numB_iff.1 (allB_at hlt HALL.out)
          obtain ⟨v1, v2⟩ := hv
          have hst : sumTo (nx t p) n (j + 1) = sumTo (nx t p) n j + itr (nx t p) j n := rfl
          have HST := Lib.hid hst
          clear hst
          have hi1 : (j : Int) < (K : Int) + 1 := by omega
          go_wp2
          refine ⟨⟨j + 1, hlt, by go_num, by rw [HST.out]⟩, by simp [intOf]; omega⟩
        · obtain rfl : j = K + 1 := by omega
          have hi1 : ¬ ((K : Int) + 1 < (K : Int) + 1) := by omega
          by_cases hs : numB (sumTo (nx t p) n (K + 1)) = true
          · have hf : som t p n K = (sumTo (nx t p) n (K + 1), true) := by rw [som, if_pos ⟨by rw [H2.out, HALL.out], hs⟩]; rfl
            have HF := Lib.hid hf
            clear hf
            go_wp2_with (go_at_call 47; refine (mpOne_any _ _).mono ?_; rintro e w' ⟨rfl, rfl⟩)
            go_ret2
            exact ⟨ret_pair HF.out, hbb⟩
          · have hs' : numB (sumTo (nx t p) n (K + 1)) = false := by simpa using hs
            have hf : som t p n K = (0, false) := by rw [som, if_neg (fun h => hs h.2)]
            have HF := Lib.hid hf
            clear hf hs
            go_wp2_with (go_at_call 47; refine (mpOne_any _ _).mono ?_; rintro e w' ⟨rfl, rfl⟩)
            go_ret2
            exact ⟨ret_pair HF.out, hbb⟩
    · have hall' : allB (nx t p) n (K + 1) = false := by simpa using hall
      have hf : som t p n K = (0, false) := by rw [som, H2.out, hall']; rfl
      have HF := Lib.hid hf
      have HALL := Lib.hid hall'
      clear hf hall hall'
      go_enter Try.func19, Try.ntmps19
      go_wp2_with (go_at_call 37; refine (mpAsked_any _ _ _ _ _).mono ?_; rintro e w1 ⟨rfl, hb1⟩; obtain ⟨c0, c1, hz, hb⟩ := map_block hb1; clear hb1)
      refine (mpPath_no t p n K _ HG.out HN.out hK HALL.out).mono ?_
      rintro e w2 ⟨rfl, hb2⟩
      have hbb := hb.trans (hb2.mono (Nat.le_of_lt hz))
      clear hb2
      go_wp2_with fail
      go_ret2
      exact ⟨ret_pair HF.out, hbb⟩
  · have ha' : askB t p n k = false := by simpa using hask
    have hf : som t p n k = (0, false) := by rw [som, aft_two, ha']; rfl
    have HF := Lib.hid hf
    clear hf hask
    go_enter Try.func19, Try.ntmps19
    go_wp2_with (go_at_call 37; refine (mpAsked_any _ _ _ _ _).mono ?_; rintro e w1 ⟨rfl, hb1⟩; obtain ⟨c0, c1, hz, hb⟩ := map_block hb1; clear hb1)
    go_ret2
    exact ⟨ret_pair HF.out, hb⟩
end Go.Proofs.Ytebbafapcknllaa
