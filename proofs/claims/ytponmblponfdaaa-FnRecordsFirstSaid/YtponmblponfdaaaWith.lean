/-
  'WithSteps', 'CountFallen' of both.
-/
import Derived.Test.YtponmblponfdaaaRecN
namespace Go.Proofs.Ytponmblponfdaaa
open Go.RowKit
set_option linter.unusedVariables false

theorem isSteps_any (k : Int) (w : World) :
    Calls Try.prog 52 #[.int .i64 k] w fun e w' => e = .returned (.bool (inB k 0 1000)) ∧ w = w' := by
  by_cases h1 : 0 ≤ k <;> by_cases h2 : k ≤ 1000
  all_goals
    go_enter Try.func52, Try.ntmps52
    go_wp2
    go_ret
    simp [inB, *]
/-- Those of the first k numbers that have just so much. -/
def withK (f : Nat → Int) (s : Int) : Nat → List Int
  | 0 => []
  | k + 1 => if f k = s then withK f s k ++ [(k : Int) + 1] else withK f s k
theorem withK_len (f : Nat → Int) (s : Int) (k : Nat) : (withK f s k).length ≤ k := by
  induction k with
  | zero => exact Nat.le_refl _
  | succ k ih => rw [withK]; split <;> (try simp) <;> omega
theorem withK_yes {f : Nat → Int} {s : Int} {k : Nat} (h : f k = s) : withK f s (k + 1) = withK f s k ++ [(k : Int) + 1] := by rw [withK, if_pos h]
theorem withK_no {f : Nat → Int} {s : Int} {k : Nat} (h : f k ≠ s) : withK f s (k + 1) = withK f s k := by rw [withK, if_neg h]
/-- Are there a map, a limit and steps? -/
def askS (t p k s : Int) : Bool := askL t p k && inB s 0 1000
def withA (t p k s : Int) : List Int := if askS t p k s = true then withK (atL (tabA needN t p k)) s (tabA needN t p k).length else []
theorem withA_no {t p k s : Int} (h : askS t p k s = false) : withA t p k s = [] := by rw [withA, if_neg (by simp [h])]
theorem withA_len (t p k s : Int) : (withA t p k s).length ≤ 1000000000000 := by
  unfold withA
  split
  · have := withK_len (atL (tabA needN t p k)) s (tabA needN t p k).length
    have := tabA_len needN t p k
    omega
  · simp
/-- How many of the first k numbers have at least 1 and at most s. -/
def cntF5 (f : Nat → Int) (s : Int) : Nat → Nat
  | 0 => 0
  | k + 1 => if 1 ≤ f k ∧ f k ≤ s then cntF5 f s k + 1 else cntF5 f s k
theorem cntF5_le (f : Nat → Int) (s : Int) (k : Nat) : cntF5 f s k ≤ k := by
  induction k with
  | zero => exact Nat.le_refl _
  | succ k ih => rw [cntF5]; split <;> omega
theorem cntF5_yes {f : Nat → Int} {s : Int} {k : Nat} (h : 1 ≤ f k ∧ f k ≤ s) : cntF5 f s (k + 1) = cntF5 f s k + 1 := by rw [cntF5, if_pos h]
theorem cntF5_no {f : Nat → Int} {s : Int} {k : Nat} (h : ¬ (1 ≤ f k ∧ f k ≤ s)) : cntF5 f s (k + 1) = cntF5 f s k := by rw [cntF5, if_neg h]
def cfA (t p k s : Int) : Int := if askS t p k s = true then (cntF5 (atL (tabA fallN t p k)) s (tabA fallN t p k).length : Int) else 0
theorem cfA_no {t p k s : Int} (h : askS t p k s = false) : cfA t p k s = 0 := by rw [cfA, if_neg (by simp [h])]
def FallB (xs : List Int) : Prop := ∀ j, j < xs.length → -1 ≤ atL xs j ∧ atL xs j ≤ 1000 ∧ (atL xs j = -1 ∨ 1 ≤ atL xs j)
theorem fall_b (t p k : Int) : FallB (tabA fallN t p k) := by
  intro j hj
  cases ha : askL t p k
  · rw [tabA_no ha] at hj; cases hj
  · obtain ⟨K, rfl, _, hK, hg⟩ := askL_yes ha
    rw [tabA_yes ha, tabL_length] at hj
    unfold atL
    rw [tabA_yes ha, tabL_at hj]
    exact fallN_bound _ _ _
theorem ret_c5 {x : Int} {f : Bool} {a : Int} {g : Bool} (h : x = a) (h' : f = g) : Ending.returned (.tuple #[.int .i64 a, .bool g]) = .returned (.tuple #[.int .i64 x, .bool f]) := by rw [h, h']

set_option maxRecDepth 100000 in
set_option maxHeartbeats 4000000 in
theorem iWithSteps (t p k s : Int) (w : World) :
    Calls Try.prog 24 #[.agg #[.int .i64 t, .int .i64 p], .int .i64 k, .int .i64 s] w (RetInts (withA t p k s) (askS t p k s) w) := by
  obtain ⟨i0, hi, hi0, hi1, hi2⟩ := info_parts info3
  have HB0 := Lib.hid ((Below.refl _ w).alloc (Nat.le_refl _) (.cells #[.int .i64 t, .int .i64 p] 25))
  have HL := Lib.hid (fun w => iStepsList t p k w)
  have HI := Lib.hid (fun w => isSteps_any s w)
  cases hask : askL t p k
  · have HA : Hid (askS t p k s = false) := Lib.hid (by rw [askS, hask]; rfl)
    have HY : Hid (withA t p k s = []) := Lib.hid (withA_no HA.out)
    rw [hask] at HL
    clear hask
    go_enter Try.func24, Try.ntmps24
    go_wp2_with fail
    refine (HL.out _).mono ?_
    rintro e w1 ⟨v, rfl, hrow, hb1⟩
    have HB := Lib.hid (HB0.out.trans (hb1.mono (by simp)))
    clear hb1 hrow
    go_wp2_with fail
    go_ret2
    exact retI_none HY.out HA.out HB.out
  · cases hs : inB s 0 1000
    · have HA : Hid (askS t p k s = false) := Lib.hid (by rw [askS, hs, Bool.and_false])
      have HY : Hid (withA t p k s = []) := Lib.hid (withA_no HA.out)
      rw [hask] at HL
      rw [hs] at HI
      clear hask hs
      go_enter Try.func24, Try.ntmps24
      go_wp2_with fail
      refine (HL.out _).mono ?_
      rintro e w1 ⟨v, rfl, hrow, hb1⟩
      have HB := Lib.hid (HB0.out.trans (hb1.mono (by simp)))
      clear hb1 hrow
      go_wp2_with (go_at_call 52; refine (HI.out _).mono ?_; rintro e w' ⟨rfl, rfl⟩)
      go_ret2
      exact retI_none HY.out HA.out HB.out
    · have hA : askS t p k s = true := by rw [askS, hask, hs]; rfl
      have HA := Lib.hid hA
      have hs01 : 0 ≤ s ∧ s ≤ 1000 := by simpa [inB] using hs
      obtain ⟨hs0, hs1⟩ := hs01
      have HY : Hid (withA t p k s = withK (atL (tabA needN t p k)) s (tabA needN t p k).length) := Lib.hid (by rw [withA, if_pos hA])
      have hlen := tabA_len needN t p k
      obtain ⟨xs, hxs⟩ : ∃ xs, tabA needN t p k = xs := ⟨_, rfl⟩
      rw [hxs] at HL hlen HY
      rw [hask] at HL
      rw [hs] at HI
      clear hask hs hxs hA
      go_enter Try.func24, Try.ntmps24
      go_wp2_with fail
      refine (HL.out _).mono ?_
      rintro e w1 ⟨v, rfl, hrow, hb1⟩
      have HB := Lib.hid (HB0.out.trans (hb1.mono (by simp)))
      obtain ⟨a, cap, rfl, hx⟩ := hrow.isIn.at'
      obtain ⟨f, hf⟩ : ∃ f, atL xs = f := ⟨_, rfl⟩
      obtain ⟨K, hKK⟩ : ∃ K, xs.length = K := ⟨_, rfl⟩
      
      rw [hf, hKK] at hx HY
      rw [hKK] at hlen ⊢
      have HX := Lib.hid hx
      have hK2 : (K : Int) ≤ 300 := by omega
      
      clear hb1 hrow hf hKK hx hlen
      go_wp2_with (go_at_call 52; refine (HI.out _).mono ?_; rintro e w' ⟨rfl, rfl⟩)
      go_loopw [10, 28] (fun v i wr => ∃ j : Nat, j ≤ K ∧ i = .int .i64 j ∧ wr.ownsRow w1.heap.size 3 1 v (withK f s j).length ((withK f s j).map (Value.int .i64)) ∧ Below w1.heap.size w1 wr) (fun _ i _ => K - (RowKit.intOf i).toNat)
      case atStart => exact ⟨0, Nat.zero_le _, rfl, World.ownsRow_nil _ _ _ _, Below.refl _ _⟩
      case round =>
        obtain ⟨j, hj, rfl, hown, hbel⟩ := hrel
        have HO := Lib.hid hown
        have HBR := Lib.hid hbel
        have hzr := hbel.size
        by_cases hlt : j < K
        · obtain ⟨g, rfl, hg, q0⟩ := HX.out j hlt
          have q : wr.cell? ⟨g, j, none⟩ = some (.int .i64 (f j)) := (hbel.cell (p := ⟨g, j, none⟩) hg).trans q0
          have hlt2 : (j : Int) < (K : Int) := by omega
          have hwl := withK_len f s j
          have HYES := Lib.hid (fun h => withK_yes (f := f) (s := s) (k := j) h)
          have HNO := Lib.hid (fun h => withK_no (f := f) (s := s) (k := j) h)
          obtain ⟨x, hx⟩ : ∃ x, f j = x := ⟨_, rfl⟩
          rw [hx] at q HYES HNO
          obtain ⟨n, hn⟩ : ∃ n, (withK f s j).length = n := ⟨_, rfl⟩
          have HN2 := Lib.hid hn
          rw [hn] at hwl
          have hj3 : n + 1 ≤ maxLen := by unfold maxLen; omega
          have HO : Hid (wr.ownsRow w1.heap.size 3 1 _ n ((withK f s j).map (Value.int .i64))) := Lib.hid (by rw [← hn]; exact hown)
          clear hown hbel hx hn q0
          by_cases he : x = s
          · have HW := Lib.hid (HYES.out he)
            have he1 : (x == s) = true := by simpa using he
            clear he HYES HNO
            go_wp2_with (at_builtin; refine wpList_append_own _ rfl _ _ 31 rfl w1.heap.size 3 i0 (.int .i64 0) 1 8 Try.underlying31 hi hi0 hi1 hi2 rfl (by decide) _ _ _ rfl (HO.out.alloc _) ⟨wr.heap.size, 0, none⟩ 1 1 [.int .i64 ((j : Int) + 1)] rfl rfl (fun j u hu => new_cell _ _ _ hu) (by simp [Value.oneCell']) hj3 (by omega) (by simp; omega) ?_; intro v5 w5 hown5 hgrow5 _)
            have hb5 : Below w1.heap.size w1 w5 := (HBR.out.alloc hzr _).grown hgrow5 (by simp; omega) (fun k e => (HO.out.lt k e).1)
            refine ⟨⟨j + 1, hlt, by go_num, ?_, hb5⟩, by simp [RowKit.intOf]; omega⟩
            rw [HW.out, List.map_append, List.length_append, HN2.out]
            exact hown5
          · have HW := Lib.hid (HNO.out he)
            have he1 : (x == s) = false := by simpa using he
            clear he HYES HNO
            go_wp2_with fail
            refine ⟨⟨j + 1, hlt, by go_num, ?_, HBR.out⟩, by simp [RowKit.intOf]; omega⟩
            rw [HW.out, HN2.out]
            exact HO.out
        · obtain rfl : j = K := by omega
          have hlt2 : ¬ ((j : Int) < (j : Int)) := by omega
          clear hown hbel
          go_wp2_with fail
          go_ret2
          rw [HA.out, HY.out]
          exact ⟨_, rfl, ownsRow_base HO.out HB.out.size, HB.out.trans (HBR.out.mono HB.out.size)⟩

set_option maxRecDepth 100000 in
set_option maxHeartbeats 4000000 in
theorem sWithSteps (t p k s : Int) (w : World) :
    Calls Try.prog 25 #[.agg #[.int .i64 t, .int .i64 p], .int .i64 k, .int .i64 s] w (RetInts (withA t p k s) (askS t p k s) w) := by
  obtain ⟨i0, hi, hi0, hi1, hi2⟩ := info_parts info3
  have HB0 := Lib.hid ((Below.refl _ w).alloc (Nat.le_refl _) (.cells #[.int .i64 t, .int .i64 p] 25))
  have HMM := Lib.hid (fun w => reLimit_any t p k w)
  have HI := Lib.hid (fun w => l1In_any s 0 1000 w)
  cases hask : askL t p k
  · have HA : Hid (askS t p k s = false) := Lib.hid (by rw [askS, hask]; rfl)
    have HY : Hid (withA t p k s = []) := Lib.hid (withA_no HA.out)
    rw [hask] at HMM
    clear hask
    go_enter Try.func25, Try.ntmps25
    go_wp2_with fail
    refine (HMM.out _).mono ?_
    rintro e w1 ⟨rfl, hb1⟩
    obtain ⟨c0, c1, hz, hb⟩ := map_block hb1
    have HB := Lib.hid hb
    clear hb1 hb
    go_wp2_with fail
    go_ret2
    exact retI_none HY.out HA.out HB.out
  · cases hs : inB s 0 1000
    · have HA : Hid (askS t p k s = false) := Lib.hid (by rw [askS, hs, Bool.and_false])
      have HY : Hid (withA t p k s = []) := Lib.hid (withA_no HA.out)
      rw [hask] at HMM
      rw [hs] at HI
      clear hask hs
      go_enter Try.func25, Try.ntmps25
      go_wp2_with fail
      refine (HMM.out _).mono ?_
      rintro e w1 ⟨rfl, hb1⟩
      obtain ⟨c0, c1, hz, hb⟩ := map_block hb1
      have HB := Lib.hid hb
      clear hb1 hb
      go_wp2_with (go_at_call 53; refine (HI.out _).mono ?_; rintro e w' ⟨rfl, rfl⟩)
      go_ret2
      exact retI_none HY.out HA.out HB.out
    · have hA : askS t p k s = true := by rw [askS, hask, hs]; rfl
      have HA := Lib.hid hA
      have hs01 : 0 ≤ s ∧ s ≤ 1000 := by simpa [inB] using hs
      obtain ⟨hs0, hs1⟩ := hs01
      have HY : Hid (withA t p k s = withK (atL (tabA needN t p k)) s (tabA needN t p k).length) := Lib.hid (by rw [withA, if_pos hA])
      have hlen := tabA_len needN t p k
      obtain ⟨K0, rfl, hK1, hK, hg⟩ := askL_yes hask
      have hYY := tabA_yes (g := needN) hask
      have HL := Lib.hid (fun w => reList_any t p K0 w hg hK)
      rw [← hYY] at HL
      clear hYY hg hK1 hK
      obtain ⟨xs, hxs⟩ : ∃ xs, tabA needN t p K0 = xs := ⟨_, rfl⟩
      rw [hxs] at HL hlen HY
      rw [hask] at HMM
      rw [hs] at HI
      clear hask hs hxs hA
      go_enter Try.func25, Try.ntmps25
      go_wp2_with fail
      refine (HMM.out _).mono ?_
      rintro e w0 ⟨rfl, hb0⟩
      obtain ⟨c0, c1, hz, hb⟩ := map_block hb0
      clear hb0
      go_wp2_with (go_at_call 53; refine (HI.out _).mono ?_; rintro e w' ⟨rfl, rfl⟩)
      refine (HL.out _).mono ?_
      rintro e w1 ⟨v, rfl, hrow, hb1⟩
      have HB := Lib.hid (hb.trans (hb1.mono (Nat.le_of_lt hz)))
      clear c0 c1 hz hb
      obtain ⟨a, cap, rfl, hx⟩ := hrow.isIn.at'
      obtain ⟨f, hf⟩ : ∃ f, atL xs = f := ⟨_, rfl⟩
      obtain ⟨K, hKK⟩ : ∃ K, xs.length = K := ⟨_, rfl⟩
      
      rw [hf, hKK] at hx HY
      rw [hKK] at hlen ⊢
      have HX := Lib.hid hx
      have hK2 : (K : Int) ≤ 300 := by omega
      
      clear hb1 hrow hf hKK hx hlen
      go_wp2_with fail
      go_loopw [8, 24] (fun v i wr => ∃ j : Nat, j ≤ K ∧ i = .int .i64 j ∧ wr.ownsRow w1.heap.size 3 1 v (withK f s j).length ((withK f s j).map (Value.int .i64)) ∧ Below w1.heap.size w1 wr) (fun _ i _ => K - (RowKit.intOf i).toNat)
      case atStart => exact ⟨0, Nat.zero_le _, rfl, World.ownsRow_nil _ _ _ _, Below.refl _ _⟩
      case round =>
        obtain ⟨j, hj, rfl, hown, hbel⟩ := hrel
        have HO := Lib.hid hown
        have HBR := Lib.hid hbel
        have hzr := hbel.size
        by_cases hlt : j < K
        · obtain ⟨g, rfl, hg, q0⟩ := HX.out j hlt
          have q : wr.cell? ⟨g, j, none⟩ = some (.int .i64 (f j)) := (hbel.cell (p := ⟨g, j, none⟩) hg).trans q0
          have hlt2 : (j : Int) < (K : Int) := by omega
          have hwl := withK_len f s j
          have HYES := Lib.hid (fun h => withK_yes (f := f) (s := s) (k := j) h)
          have HNO := Lib.hid (fun h => withK_no (f := f) (s := s) (k := j) h)
          obtain ⟨x, hx⟩ : ∃ x, f j = x := ⟨_, rfl⟩
          rw [hx] at q HYES HNO
          obtain ⟨n, hn⟩ : ∃ n, (withK f s j).length = n := ⟨_, rfl⟩
          have HN2 := Lib.hid hn
          rw [hn] at hwl
          have hj3 : n + 1 ≤ maxLen := by unfold maxLen; omega
          have HO : Hid (wr.ownsRow w1.heap.size 3 1 _ n ((withK f s j).map (Value.int .i64))) := Lib.hid (by rw [← hn]; exact hown)
          clear hown hbel hx hn q0
          by_cases he : x = s
          · have HW := Lib.hid (HYES.out he)
            have he1 : (x == s) = true := by simpa using he
            clear he HYES HNO
            go_wp2_with (at_builtin; refine wpList_append_own _ rfl _ _ 31 rfl w1.heap.size 3 i0 (.int .i64 0) 1 8 Try.underlying31 hi hi0 hi1 hi2 rfl (by decide) _ _ _ rfl (HO.out.alloc _) ⟨wr.heap.size, 0, none⟩ 1 1 [.int .i64 ((j : Int) + 1)] rfl rfl (fun j u hu => new_cell _ _ _ hu) (by simp [Value.oneCell']) hj3 (by omega) (by simp; omega) ?_; intro v5 w5 hown5 hgrow5 _)
            have hb5 : Below w1.heap.size w1 w5 := (HBR.out.alloc hzr _).grown hgrow5 (by simp; omega) (fun k e => (HO.out.lt k e).1)
            refine ⟨⟨j + 1, hlt, by go_num, ?_, hb5⟩, by simp [RowKit.intOf]; omega⟩
            rw [HW.out, List.map_append, List.length_append, HN2.out]
            exact hown5
          · have HW := Lib.hid (HNO.out he)
            have he1 : (x == s) = false := by simpa using he
            clear he HYES HNO
            go_wp2_with fail
            refine ⟨⟨j + 1, hlt, by go_num, ?_, HBR.out⟩, by simp [RowKit.intOf]; omega⟩
            rw [HW.out, HN2.out]
            exact HO.out
        · obtain rfl : j = K := by omega
          have hlt2 : ¬ ((j : Int) < (j : Int)) := by omega
          clear hown hbel
          go_wp2_with fail
          go_ret2
          rw [HA.out, HY.out]
          exact ⟨_, rfl, ownsRow_base HO.out HB.out.size, HB.out.trans (HBR.out.mono HB.out.size)⟩

set_option maxRecDepth 100000 in
set_option maxHeartbeats 4000000 in
theorem iCountFallen (t p k s : Int) (w : World) :
    Calls Try.prog 26 #[.agg #[.int .i64 t, .int .i64 p], .int .i64 k, .int .i64 s] w fun e w' => e = .returned (.tuple #[.int .i64 (cfA t p k s), .bool (askS t p k s)]) ∧ Below w.heap.size w w' := by
  obtain ⟨i0, hi, hi0, hi1, hi2⟩ := info_parts info3
  have HB0 := Lib.hid ((Below.refl _ w).alloc (Nat.le_refl _) (.cells #[.int .i64 t, .int .i64 p] 25))
  have HL := Lib.hid (fun w => iFallsOf t p k w)
  have HI := Lib.hid (fun w => isSteps_any s w)
  cases hask : askL t p k
  · have HA : Hid (askS t p k s = false) := Lib.hid (by rw [askS, hask]; rfl)
    have HY : Hid (cfA t p k s = 0) := Lib.hid (cfA_no HA.out)
    rw [hask] at HL
    clear hask
    go_enter Try.func26, Try.ntmps26
    go_wp2_with fail
    refine (HL.out _).mono ?_
    rintro e w1 ⟨v, rfl, hrow, hb1⟩
    have HB := Lib.hid (HB0.out.trans (hb1.mono (by simp)))
    clear hb1 hrow
    go_wp2_with fail
    go_ret2
    exact ⟨ret_c5 HY.out HA.out, HB.out⟩
  · cases hs : inB s 0 1000
    · have HA : Hid (askS t p k s = false) := Lib.hid (by rw [askS, hs, Bool.and_false])
      have HY : Hid (cfA t p k s = 0) := Lib.hid (cfA_no HA.out)
      rw [hask] at HL
      rw [hs] at HI
      clear hask hs
      go_enter Try.func26, Try.ntmps26
      go_wp2_with fail
      refine (HL.out _).mono ?_
      rintro e w1 ⟨v, rfl, hrow, hb1⟩
      have HB := Lib.hid (HB0.out.trans (hb1.mono (by simp)))
      clear hb1 hrow
      go_wp2_with (go_at_call 52; refine (HI.out _).mono ?_; rintro e w' ⟨rfl, rfl⟩)
      go_ret2
      exact ⟨ret_c5 HY.out HA.out, HB.out⟩
    · have hA : askS t p k s = true := by rw [askS, hask, hs]; rfl
      have HA := Lib.hid hA
      have hs01 : 0 ≤ s ∧ s ≤ 1000 := by simpa [inB] using hs
      obtain ⟨hs0, hs1⟩ := hs01
      have HY : Hid (cfA t p k s = (cntF5 (atL (tabA fallN t p k)) s (tabA fallN t p k).length : Int)) := Lib.hid (by rw [cfA, if_pos hA])
      have hfb := fall_b t p k
      have hlen := tabA_len fallN t p k
      obtain ⟨xs, hxs⟩ : ∃ xs, tabA fallN t p k = xs := ⟨_, rfl⟩
      rw [hxs] at HL hlen HY hfb
      rw [hask] at HL
      rw [hs] at HI
      clear hask hs hxs hA
      go_enter Try.func26, Try.ntmps26
      go_wp2_with fail
      refine (HL.out _).mono ?_
      rintro e w1 ⟨v, rfl, hrow, hb1⟩
      have HB := Lib.hid (HB0.out.trans (hb1.mono (by simp)))
      obtain ⟨a, cap, rfl, hx⟩ := hrow.isIn.at'
      obtain ⟨f, hf⟩ : ∃ f, atL xs = f := ⟨_, rfl⟩
      obtain ⟨K, hKK⟩ : ∃ K, xs.length = K := ⟨_, rfl⟩
      unfold FallB at hfb
      rw [hf, hKK] at hx HY hfb
      rw [hKK] at hlen ⊢
      have HX := Lib.hid hx
      have hK2 : (K : Int) ≤ 300 := by omega
      have HFB := Lib.hid hfb
      clear hb1 hrow hf hKK hx hlen hfb
      go_wp2_with (go_at_call 52; refine (HI.out _).mono ?_; rintro e w' ⟨rfl, rfl⟩)
      go_loop [10, 28] (fun c i => ∃ j : Nat, j ≤ K ∧ i = .int .i64 j ∧ c = .int .i64 (cntF5 f s j)) (fun _ i => K - (RowKit.intOf i).toNat)
      case atStart => exact ⟨0, Nat.zero_le _, rfl, rfl⟩
      case round =>
        obtain ⟨j, hj, rfl, rfl⟩ := hrel
        by_cases hlt : j < K
        · obtain ⟨g, rfl, hg, q⟩ := HX.out j hlt
          have hlt2 : (j : Int) < (K : Int) := by omega
          have hcl := cntF5_le f s j
          have hfx := HFB.out j hlt
          have HYES := Lib.hid (fun h => cntF5_yes (f := f) (s := s) (k := j) h)
          have HNO := Lib.hid (fun h => cntF5_no (f := f) (s := s) (k := j) h)
          obtain ⟨x, hx⟩ : ∃ x, f j = x := ⟨_, rfl⟩
          rw [hx] at q HYES HNO hfx
          obtain ⟨n, hn⟩ : ∃ n, cntF5 f s j = n := ⟨_, rfl⟩
          rw [hn] at hcl HYES HNO ⊢
          have hn2 : (n : Int) ≤ 300 := by omega
          clear hx hn
          by_cases he : x = -1
          · have HW := Lib.hid (HNO.out (by omega))
            have he1 : (x != -1) = false := by simpa using he
            clear he HYES HNO hfx
            go_wp2_with fail
            exact ⟨⟨j + 1, hlt, by go_num, by rw [HW.out]⟩, by simp [RowKit.intOf]; omega⟩
          · have he1 : (x != -1) = true := by simpa using he
            by_cases hle : x ≤ s
            · have HW := Lib.hid (HYES.out (by omega))
              clear he HYES HNO hfx
              go_wp2_with fail
              exact ⟨⟨j + 1, hlt, by go_num, by rw [HW.out]; go_num⟩, by simp [RowKit.intOf]; omega⟩
            · have HW := Lib.hid (HNO.out (by omega))
              clear he HYES HNO hfx
              go_wp2_with fail
              exact ⟨⟨j + 1, hlt, by go_num, by rw [HW.out]⟩, by simp [RowKit.intOf]; omega⟩
        · obtain rfl : j = K := by omega
          have hlt2 : ¬ ((j : Int) < (j : Int)) := by omega
          go_wp2_with fail
          go_ret2
          exact ⟨ret_c5 HY.out HA.out, HB.out⟩

set_option maxRecDepth 100000 in
set_option maxHeartbeats 4000000 in
theorem sCountFallen (t p k s : Int) (w : World) :
    Calls Try.prog 27 #[.agg #[.int .i64 t, .int .i64 p], .int .i64 k, .int .i64 s] w fun e w' => e = .returned (.tuple #[.int .i64 (cfA t p k s), .bool (askS t p k s)]) ∧ Below w.heap.size w w' := by
  obtain ⟨i0, hi, hi0, hi1, hi2⟩ := info_parts info3
  have HB0 := Lib.hid ((Below.refl _ w).alloc (Nat.le_refl _) (.cells #[.int .i64 t, .int .i64 p] 25))
  have HMM := Lib.hid (fun w => reLimit_any t p k w)
  have HI := Lib.hid (fun w => l1In_any s 0 1000 w)
  cases hask : askL t p k
  · have HA : Hid (askS t p k s = false) := Lib.hid (by rw [askS, hask]; rfl)
    have HY : Hid (cfA t p k s = 0) := Lib.hid (cfA_no HA.out)
    rw [hask] at HMM
    clear hask
    go_enter Try.func27, Try.ntmps27
    go_wp2_with fail
    refine (HMM.out _).mono ?_
    rintro e w1 ⟨rfl, hb1⟩
    obtain ⟨c0, c1, hz, hb⟩ := map_block hb1
    have HB := Lib.hid hb
    clear hb1 hb
    go_wp2_with fail
    go_ret2
    exact ⟨ret_c5 HY.out HA.out, HB.out⟩
  · cases hs : inB s 0 1000
    · have HA : Hid (askS t p k s = false) := Lib.hid (by rw [askS, hs, Bool.and_false])
      have HY : Hid (cfA t p k s = 0) := Lib.hid (cfA_no HA.out)
      rw [hask] at HMM
      rw [hs] at HI
      clear hask hs
      go_enter Try.func27, Try.ntmps27
      go_wp2_with fail
      refine (HMM.out _).mono ?_
      rintro e w1 ⟨rfl, hb1⟩
      obtain ⟨c0, c1, hz, hb⟩ := map_block hb1
      have HB := Lib.hid hb
      clear hb1 hb
      go_wp2_with (go_at_call 53; refine (HI.out _).mono ?_; rintro e w' ⟨rfl, rfl⟩)
      go_ret2
      exact ⟨ret_c5 HY.out HA.out, HB.out⟩
    · have hA : askS t p k s = true := by rw [askS, hask, hs]; rfl
      have HA := Lib.hid hA
      have hs01 : 0 ≤ s ∧ s ≤ 1000 := by simpa [inB] using hs
      obtain ⟨hs0, hs1⟩ := hs01
      have HY : Hid (cfA t p k s = (cntF5 (atL (tabA fallN t p k)) s (tabA fallN t p k).length : Int)) := Lib.hid (by rw [cfA, if_pos hA])
      have hfb := fall_b t p k
      have hlen := tabA_len fallN t p k
      obtain ⟨K0, rfl, hK1, hK, hg⟩ := askL_yes hask
      have hYY := tabA_yes (g := fallN) hask
      have HL := Lib.hid (fun w => reFalls_any t p K0 w hg hK)
      rw [← hYY] at HL
      clear hYY hg hK1 hK
      obtain ⟨xs, hxs⟩ : ∃ xs, tabA fallN t p K0 = xs := ⟨_, rfl⟩
      rw [hxs] at HL hlen HY hfb
      rw [hask] at HMM
      rw [hs] at HI
      clear hask hs hxs hA
      go_enter Try.func27, Try.ntmps27
      go_wp2_with fail
      refine (HMM.out _).mono ?_
      rintro e w0 ⟨rfl, hb0⟩
      obtain ⟨c0, c1, hz, hb⟩ := map_block hb0
      clear hb0
      go_wp2_with (go_at_call 53; refine (HI.out _).mono ?_; rintro e w' ⟨rfl, rfl⟩)
      refine (HL.out _).mono ?_
      rintro e w1 ⟨v, rfl, hrow, hb1⟩
      have HB := Lib.hid (hb.trans (hb1.mono (Nat.le_of_lt hz)))
      clear c0 c1 hz hb
      obtain ⟨a, cap, rfl, hx⟩ := hrow.isIn.at'
      obtain ⟨f, hf⟩ : ∃ f, atL xs = f := ⟨_, rfl⟩
      obtain ⟨K, hKK⟩ : ∃ K, xs.length = K := ⟨_, rfl⟩
      unfold FallB at hfb
      rw [hf, hKK] at hx HY hfb
      rw [hKK] at hlen ⊢
      have HX := Lib.hid hx
      have hK2 : (K : Int) ≤ 300 := by omega
      have HFB := Lib.hid hfb
      clear hb1 hrow hf hKK hx hlen hfb
      go_wp2_with fail
      go_loop [8, 24] (fun c i => ∃ j : Nat, j ≤ K ∧ i = .int .i64 j ∧ c = .int .i64 (cntF5 f s j)) (fun _ i => K - (RowKit.intOf i).toNat)
      case atStart => exact ⟨0, Nat.zero_le _, rfl, rfl⟩
      case round =>
        obtain ⟨j, hj, rfl, rfl⟩ := hrel
        by_cases hlt : j < K
        · obtain ⟨g, rfl, hg, q⟩ := HX.out j hlt
          have hlt2 : (j : Int) < (K : Int) := by omega
          have hcl := cntF5_le f s j
          have hfx := HFB.out j hlt
          have HYES := Lib.hid (fun h => cntF5_yes (f := f) (s := s) (k := j) h)
          have HNO := Lib.hid (fun h => cntF5_no (f := f) (s := s) (k := j) h)
          obtain ⟨x, hx⟩ : ∃ x, f j = x := ⟨_, rfl⟩
          rw [hx] at q HYES HNO hfx
          obtain ⟨n, hn⟩ : ∃ n, cntF5 f s j = n := ⟨_, rfl⟩
          rw [hn] at hcl HYES HNO ⊢
          have hn2 : (n : Int) ≤ 300 := by omega
          clear hx hn
          have HI2 := Lib.hid (fun w => l1In_any x 1 s w)
          cases hb : inB x 1 s
          · have HW := Lib.hid (HNO.out (by intro h; rw [inB, decide_eq_false_iff_not] at hb; exact hb h))
            rw [hb] at HI2
            clear hb HYES HNO hfx
            go_wp2_with (go_at_call 53; refine (HI2.out _).mono ?_; rintro e w' ⟨rfl, rfl⟩)
            exact ⟨⟨j + 1, hlt, by go_num, by rw [HW.out]⟩, by simp [RowKit.intOf]; omega⟩
          · have HW := Lib.hid (HYES.out (by rw [inB, decide_eq_true_eq] at hb; exact hb))
            rw [hb] at HI2
            clear hb HYES HNO hfx
            go_wp2_with (go_at_call 53; refine (HI2.out _).mono ?_; rintro e w' ⟨rfl, rfl⟩)
            exact ⟨⟨j + 1, hlt, by go_num, by rw [HW.out]; go_num⟩, by simp [RowKit.intOf]; omega⟩
        · obtain rfl : j = K := by omega
          have hlt2 : ¬ ((j : Int) < (j : Int)) := by omega
          go_wp2_with fail
          go_ret2
          exact ⟨ret_c5 HY.out HA.out, HB.out⟩
end Go.Proofs.Ytponmblponfdaaa
