/-
  'CountLost' of both.
-/
import Derived.Test.YtlbiafeiedhhfaaCycS
namespace Go.Proofs.Ytlbiafeiedhhfaa
open Go.RowKit
set_option linter.unusedVariables false

/-- How many of the numbers 1 to k are lost. -/
def lostN (t p : Int) : Nat → Nat
  | 0 => 0
  | k + 1 => lostN t p k + (if (cyA t p ((k : Int) + 1)).isSome = true then 0 else 1)
theorem lostN_le (t p : Int) (k : Nat) : lostN t p k ≤ k := by
  induction k with
  | zero => exact Nat.le_refl _
  | succ k ih => rw [lostN]; split <;> omega
/-- Are there a map and a limit? -/
def askL (t p k : Int) : Bool := goodB t p && inB k 1 300
/-- What CountLost comes to. -/
def clo (t p k : Int) : Int := if askL t p k = true then (lostN t p k.toNat : Int) else 0
theorem isFoundLimit_any (k : Int) (w : World) :
    Calls Try.prog 32 #[.int .i64 k] w fun e w' => e = .returned (.bool (inB k 1 300)) ∧ w = w' := by
  by_cases h1 : 1 ≤ k <;> by_cases h2 : k ≤ 300
  all_goals
    go_enter Try.func32, Try.ntmps32
    go_wp2
    go_ret
    simp [inB, *]
theorem cyLimit_any (t p k : Int) (w : World) :
    Calls Try.prog 29 #[.agg #[.int .i64 t, .int .i64 p], .int .i64 k] w fun e w' => e = .returned (.bool (askL t p k)) ∧ Below w.heap.size w w' := by
  have HM := Lib.hid (fun w => mpGood_any t p w)
  have HI := Lib.hid (fun w => l1In_any k 1 300 w)
  cases hg : goodB t p
  · have HA : Hid (askL t p k = false) := Lib.hid (by rw [askL, hg]; rfl)
    rw [hg] at HM
    clear hg
    go_enter Try.func29, Try.ntmps29
    go_wp2_with fail
    refine (HM.out _).mono ?_
    rintro e w1 ⟨rfl, hb1⟩
    obtain ⟨c0, c1, hz, hb⟩ := map_block hb1
    clear hb1
    go_wp2_with fail
    go_ret
    exact ⟨ret_bool HA.out.symm, hb⟩
  · have HA : Hid (askL t p k = inB k 1 300) := Lib.hid (by rw [askL, hg]; rfl)
    rw [hg] at HM
    clear hg
    go_enter Try.func29, Try.ntmps29
    go_wp2_with fail
    refine (HM.out _).mono ?_
    rintro e w1 ⟨rfl, hb1⟩
    obtain ⟨c0, c1, hz, hb⟩ := map_block hb1
    clear hb1
    go_wp2_with (go_at_call 36; refine (HI.out _).mono ?_; rintro e w' ⟨rfl, rfl⟩)
    go_ret
    exact ⟨ret_bool HA.out.symm, hb⟩
theorem ret_cl {x y : Int} {a b : Bool} (h : x = y) (h' : a = b) : Ending.returned (.tuple #[.int .i64 x, .bool a]) = .returned (.tuple #[.int .i64 y, .bool b]) := by rw [h, h']
theorem small_num {K : Nat} {j : Nat} (hK : (K : Int) ≤ 300) (hj : j < K) : numB ((j : Int) + 1) = true := by rw [numB_iff]; omega
theorem lost_found {t p : Int} {j : Nat} {x : Nat × Nat} (h : cyA t p ((j : Int) + 1) = some x) : lostN t p (j + 1) = lostN t p j := by rw [lostN, h]; rfl
theorem lost_not {t p : Int} {j : Nat} (h : cyA t p ((j : Int) + 1) = none) : lostN t p (j + 1) = lostN t p j + 1 := by rw [lostN, h]; rfl

set_option maxRecDepth 100000 in
set_option maxHeartbeats 2000000 in
theorem iCountLost (t p k : Int) (w : World) :
    Calls Try.prog 21 #[.agg #[.int .i64 t, .int .i64 p], .int .i64 k] w fun e w' => e = .returned (.tuple #[.int .i64 (clo t p k), .bool (askL t p k)]) ∧ Below w.heap.size w w' := by
  have HM := Lib.hid (fun w => isMap_any t p w)
  have HI := Lib.hid (fun w => isFoundLimit_any k w)
  cases hg : goodB t p
  · have HA : Hid (askL t p k = false) := Lib.hid (by rw [askL, hg]; rfl)
    have HY : Hid (clo t p k = 0) := Lib.hid (by rw [clo, if_neg (by simp [askL, hg])])
    rw [hg] at HM
    clear hg
    go_enter Try.func21, Try.ntmps21
    go_wp2_with fail
    refine (HM.out _).mono ?_
    rintro e w1 ⟨rfl, hb1⟩
    obtain ⟨c0, c1, hz, hb⟩ := map_block hb1
    clear hb1
    go_wp2_with fail
    go_ret2
    exact ⟨ret_cl HY.out.symm HA.out.symm, hb⟩
  · rw [hg] at HM
    cases hi : inB k 1 300
    · have HA : Hid (askL t p k = false) := Lib.hid (by rw [askL, hi, Bool.and_false])
      have HY : Hid (clo t p k = 0) := Lib.hid (by rw [clo, if_neg (by simp [askL, hi])])
      rw [hi] at HI
      clear hg hi
      go_enter Try.func21, Try.ntmps21
      go_wp2_with fail
      refine (HM.out _).mono ?_
      rintro e w1 ⟨rfl, hb1⟩
      obtain ⟨c0, c1, hz, hb⟩ := map_block hb1
      clear hb1
      go_wp2_with (go_at_call 32; refine (HI.out _).mono ?_; rintro e w' ⟨rfl, rfl⟩)
      go_ret2
      exact ⟨ret_cl HY.out.symm HA.out.symm, hb⟩
    · have HA : Hid (askL t p k = true) := Lib.hid (by rw [askL, hg, hi]; rfl)
      have hk : 1 ≤ k ∧ k ≤ 300 := by simpa [inB] using hi
      obtain ⟨K, rfl⟩ : ∃ K : Nat, k = K := ⟨k.toNat, by omega⟩
      have HY : Hid (clo t p K = (lostN t p K : Int)) := Lib.hid (by rw [clo, if_pos HA.out]; rfl)
      have HG := Lib.hid hg
      have hK : (K : Int) ≤ 300 := hk.2
      rw [hi] at HI
      have HS := Lib.hid (fun n w => stepsOf_any t p n w hg)
      clear hg hi hk
      go_enter Try.func21, Try.ntmps21
      go_wp2_with fail
      refine (HM.out _).mono ?_
      rintro e w1 ⟨rfl, hb1⟩
      obtain ⟨c0, c1, hz, hb⟩ := map_block hb1
      have HB0 := Lib.hid hb
      clear hb1 hb
      go_wp2_with (go_at_call 32; refine (HI.out _).mono ?_; rintro e w' ⟨rfl, rfl⟩)
      go_loopw [6, 7] (fun x i wr => ∃ j : Nat, j ≤ K ∧ i = .int .i64 ((j : Int) + 1) ∧ x = .int .i64 (lostN t p j : Int) ∧ wr.cell? ⟨w.heap.size, 0, none⟩ = some (.int .i64 t) ∧ wr.cell? ⟨w.heap.size, 1, none⟩ = some (.int .i64 p) ∧ w.heap.size < wr.heap.size ∧ Below w.heap.size w wr) (fun _ i _ => K + 1 - (intOf i).toNat)
      case atStart => exact ⟨0, Nat.zero_le _, rfl, rfl, c0, c1, hz, HB0.out⟩
      case round =>
        clear c0 c1 hz
        obtain ⟨j, hj, rfl, rfl, c0, c1, hz, hbel⟩ := hrel
        have HB := Lib.hid hbel
        have hll := lostN_le t p j
        clear hbel
        by_cases hlt : j < K
        · have hlt2 : (j : Int) + 1 ≤ (K : Int) := by omega
          have HSJ := Lib.hid (fun w => HS.out ((j : Int) + 1) w)
          have hcg := cyA_good (n := (j : Int) + 1) HG.out
          rw [← hcg] at HSJ
          have HLF := Lib.hid (fun x (h : cyA t p ((j : Int) + 1) = some x) => lost_found h)
          have HLN := Lib.hid (fun (h : cyA t p ((j : Int) + 1) = none) => lost_not h)
          have hll2 : ((lostN t p j : Nat) : Int) ≤ 300 := by omega
          obtain ⟨l, hl⟩ : ∃ l, lostN t p j = l := ⟨_, rfl⟩
          rw [hl] at hll hll2 HLF HLN ⊢
          clear hcg hl
          go_wp2_with fail
          refine (HSJ.out _).mono ?_
          rintro e w2 (⟨K2, i2, b2, ho, rfl, hbb, hown, hb2⟩ | ⟨ho, rfl, hb2⟩)
          · have d0 := kept_cell hb2 hz c0
            have d1 := kept_cell hb2 hz c1
            have hz2 := Nat.lt_of_lt_of_le hz hb2.size
            have HB2 := Lib.hid (HB.out.trans (hb2.mono (Nat.le_of_lt hz)))
            have HO := Lib.hid (HLF.out _ ho)
            clear hb2 c0 c1 ho hbb hown
            go_wp2_with fail
            exact ⟨⟨j + 1, hlt, by go_num, by rw [HO.out], d0, d1, hz2, HB2.out⟩, by simp [intOf]; omega⟩
          · have d0 := kept_cell hb2 hz c0
            have d1 := kept_cell hb2 hz c1
            have hz2 := Nat.lt_of_lt_of_le hz hb2.size
            have HB2 := Lib.hid (HB.out.trans (hb2.mono (Nat.le_of_lt hz)))
            have HO := Lib.hid (HLN.out ho)
            clear hb2 c0 c1 ho
            go_wp2_with fail
            exact ⟨⟨j + 1, hlt, by go_num, by rw [HO.out]; rfl, d0, d1, hz2, HB2.out⟩, by simp [intOf]; omega⟩
        · obtain rfl : j = K := by omega
          have hlt2 : ¬ ((j : Int) + 1 ≤ (j : Int)) := by omega
          go_wp2_with fail
          go_ret2
          exact ⟨ret_cl HY.out.symm HA.out.symm, HB.out⟩

set_option maxRecDepth 100000 in
set_option maxHeartbeats 2000000 in
theorem sCountLost (t p k : Int) (w : World) :
    Calls Try.prog 20 #[.agg #[.int .i64 t, .int .i64 p], .int .i64 k] w fun e w' => e = .returned (.tuple #[.int .i64 (clo t p k), .bool (askL t p k)]) ∧ Below w.heap.size w w' := by
  have HM := Lib.hid (fun w => cyLimit_any t p k w)
  cases ha : askL t p k
  · have HA := Lib.hid ha
    have HY : Hid (clo t p k = 0) := Lib.hid (by rw [clo, if_neg (by simp [ha])])
    rw [ha] at HM
    clear ha
    go_enter Try.func20, Try.ntmps20
    go_wp2_with fail
    refine (HM.out _).mono ?_
    rintro e w1 ⟨rfl, hb1⟩
    obtain ⟨c0, c1, hz, hb⟩ := map_block hb1
    clear hb1
    go_wp2_with fail
    go_ret2
    exact ⟨ret_cl HY.out.symm rfl, hb⟩
  · have HA : Hid (true = true) := Lib.hid rfl
    have hg : goodB t p = true := by simp only [askL, Bool.and_eq_true] at ha; exact ha.1
    have hi : inB k 1 300 = true := by simp only [askL, Bool.and_eq_true] at ha; exact ha.2
    have hk : 1 ≤ k ∧ k ≤ 300 := by simpa [inB] using hi
    rw [ha] at HM
    obtain ⟨K, rfl⟩ : ∃ K : Nat, k = K := ⟨k.toNat, by omega⟩
    have HY : Hid (clo t p K = (lostN t p K : Int)) := Lib.hid (by rw [clo, if_pos ha]; rfl)
    have HG := Lib.hid hg
    have hK : (K : Int) ≤ 300 := hk.2
    have HS := Lib.hid (fun n w => cyFind_any t p n w hg)
    clear ha hg hi hk
    go_enter Try.func20, Try.ntmps20
    go_wp2_with fail
    refine (HM.out _).mono ?_
    rintro e w1 ⟨rfl, hb1⟩
    obtain ⟨c0, c1, hz, hb⟩ := map_block hb1
    have HB0 := Lib.hid hb
    clear hb1 hb
    go_wp2_with fail
    go_loopw [6, 7] (fun x i wr => ∃ j : Nat, j ≤ K ∧ i = .int .i64 ((j : Int) + 1) ∧ x = .int .i64 (lostN t p j : Int) ∧ wr.cell? ⟨w.heap.size, 0, none⟩ = some (.int .i64 t) ∧ wr.cell? ⟨w.heap.size, 1, none⟩ = some (.int .i64 p) ∧ w.heap.size < wr.heap.size ∧ Below w.heap.size w wr) (fun _ i _ => K + 1 - (intOf i).toNat)
    case atStart => exact ⟨0, Nat.zero_le _, rfl, rfl, c0, c1, hz, HB0.out⟩
    case round =>
      clear c0 c1 hz
      obtain ⟨j, hj, rfl, rfl, c0, c1, hz, hbel⟩ := hrel
      have HB := Lib.hid hbel
      have hll := lostN_le t p j
      clear hbel
      by_cases hlt : j < K
      · have hlt2 : (j : Int) + 1 ≤ (K : Int) := by omega
        have HSJ := Lib.hid (fun w => HS.out ((j : Int) + 1) w)
        have hcg := cyA_good (n := (j : Int) + 1) HG.out
        rw [← hcg] at HSJ
        have HLF := Lib.hid (fun x (h : cyA t p ((j : Int) + 1) = some x) => lost_found h)
        have HLN := Lib.hid (fun (h : cyA t p ((j : Int) + 1) = none) => lost_not h)
        have hll2 : ((lostN t p j : Nat) : Int) ≤ 300 := by omega
        obtain ⟨l, hl⟩ : ∃ l, lostN t p j = l := ⟨_, rfl⟩
        rw [hl] at hll hll2 HLF HLN ⊢
        clear hcg hl
        go_wp2_with fail
        refine (HSJ.out _).mono ?_
        rintro e w2 (⟨K2, i2, v2, ho, rfl, hrow, hb2⟩ | ⟨ho, rfl, hb2⟩)
        · have d0 := kept_cell hb2 hz c0
          have d1 := kept_cell hb2 hz c1
          have hz2 := Nat.lt_of_lt_of_le hz hb2.size
          have HB2 := Lib.hid (HB.out.trans (hb2.mono (Nat.le_of_lt hz)))
          have HO := Lib.hid (HLF.out _ ho)
          clear hb2 c0 c1 ho hrow
          go_wp2_with fail
          exact ⟨⟨j + 1, hlt, by go_num, by rw [HO.out], d0, d1, hz2, HB2.out⟩, by simp [intOf]; omega⟩
        · have d0 := kept_cell hb2 hz c0
          have d1 := kept_cell hb2 hz c1
          have hz2 := Nat.lt_of_lt_of_le hz hb2.size
          have HB2 := Lib.hid (HB.out.trans (hb2.mono (Nat.le_of_lt hz)))
          have HO := Lib.hid (HLN.out ho)
          clear hb2 c0 c1 ho
          go_wp2_with fail
          exact ⟨⟨j + 1, hlt, by go_num, by rw [HO.out]; rfl, d0, d1, hz2, HB2.out⟩, by simp [intOf]; omega⟩
      · obtain rfl : j = K := by omega
        have hlt2 : ¬ ((j : Int) + 1 ≤ (j : Int)) := by omega
        go_wp2_with fail
        go_ret2
        exact ⟨ret_cl HY.out.symm rfl, HB.out⟩
end Go.Proofs.Ytlbiafeiedhhfaa
