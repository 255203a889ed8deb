/-
  THE GREATEST AND THE LEAST NUMBER OF A PATH: 'mpFar' of the model; 'slices.Max', 'slices.Min', 'slices.Index' of the library at slices of integers.
-/
import Derived.Test.YtponmblponfdaaaSum
import Derived.WalkLawsBesides
namespace Go.Proofs.Ytponmblponfdaaa
open Go.RowKit
set_option linter.unusedVariables false

/-- Is x greater (s), or less, than y? -/
def bet (s : Bool) (x y : Int) : Bool := if s = true then decide (y < x) else decide (x < y)
/-- The first place of the greatest (least) of a 0 .. a k. -/
def far (s : Bool) (a : Nat → Int) : Nat → Nat
  | 0 => 0
  | k + 1 => if bet s (a (k + 1)) (a (far s a k)) = true then k + 1 else far s a k
theorem far_le (s : Bool) (a : Nat → Int) (k : Nat) : far s a k ≤ k := by
  induction k with
  | zero => exact Nat.le_refl _
  | succ k ih => rw [far]; split <;> omega
theorem far_best (s : Bool) (a : Nat → Int) (k : Nat) : (∀ j, j ≤ k → bet s (a j) (a (far s a k)) = false) ∧ ∀ j, j < far s a k → bet s (a (far s a k)) (a j) = true := by
  induction k with
  | zero =>
    refine ⟨fun j hj => ?_, fun j hj => absurd hj (by simp [far])⟩
    obtain rfl : j = 0 := by omega
    cases s <;> simp [bet, far]
  | succ k ih =>
    obtain ⟨h1, h2⟩ := ih
    rw [far]
    split
    · rename_i hb
      refine ⟨fun j hj => ?_, fun j hj => ?_⟩
      · by_cases e : j = k + 1
        · subst e; cases s <;> simp [bet]
        · have := h1 j (by omega)
          cases s <;> simp [bet] at * <;> omega
      · have := h1 j (by omega)
        cases s <;> simp [bet] at * <;> omega
    · rename_i hb
      refine ⟨fun j hj => ?_, h2⟩
      by_cases e : j = k + 1
      · subst e; simpa using hb
      · exact h1 j (by omega)

set_option maxRecDepth 100000 in
set_option maxHeartbeats 1000000 in
theorem mpFar_any (s : Bool) (f : Int → Int) (n : Int) (K g cap B : Nat) (w : World) (hK : K ≤ 1000) (hr : PathAt w B g cap f n K) :
    Calls Try.prog 60 #[.slice (some ⟨g, 0, none⟩) (K + 1) cap, .bool s] w fun e w' => e = .returned (.int .i64 (far s (fun j => itr f j n) K)) ∧ w = w' := by
  have HR := Lib.hid hr
  have hK2 : (K : Int) ≤ 1000 := by omega
  clear hr
  obtain ⟨a, ha⟩ : ∃ a : Nat → Int, a = fun j => itr f j n := ⟨_, rfl⟩
  rw [← ha]
  have HC : Hid (∀ j, j ≤ K → w.cell? ⟨g, j, none⟩ = some (.int .i64 (a j))) := Lib.hid (fun j hj => by rw [ha]; exact HR.out.cell hj)
  clear ha
  cases s
  all_goals
    go_enter Try.func60, Try.ntmps60
    go_wp2_with fail
  · go_loop [5, 10] (fun b i => ∃ j : Nat, j ≤ K + 1 ∧ i = .int .i64 j ∧ b = .int .i64 (far false a (j - 1))) (fun _ i => K + 1 - (intOf i).toNat)
    case atStart => exact ⟨0, by omega, rfl, rfl⟩
    case round =>
      obtain ⟨j, hj, rfl, rfl⟩ := hrel
      obtain ⟨b, hb⟩ : ∃ b, b = far false a (j - 1) := ⟨_, rfl⟩
      rw [← hb]
      have HB := Lib.hid hb
      have hbl : b ≤ K := by have := far_le false a (j - 1); omega
      clear hb
      by_cases hlt : j < K + 1
      · have q := HC.out j (by omega)
        have qb := HC.out b hbl
        have hi1 : (j : Int) < (K : Int) + 1 := by omega
        have hi2 : (b : Int) < (K : Int) + 1 := by omega
        have hst : far false a j = if a j < a b then j else b := by
          cases j with
          | zero =>
            have hb0 : b = 0 := HB.out
            rw [hb0]; simp [far]
          | succ j => rw [far, HB.out, bet]; simp
        by_cases hc : a j < a b
        · have hst' : far false a j = j := by rw [hst, if_pos hc]
          have HST := Lib.hid hst'
          clear hst hst'
          go_wp2
          exact ⟨⟨j + 1, hlt, by go_num, by rw [Nat.add_sub_cancel, HST.out]⟩, by simp [intOf]; omega⟩
        · have hst' : far false a j = b := by rw [hst, if_neg hc]
          have HST := Lib.hid hst'
          clear hst hst'
          go_wp2
          exact ⟨⟨j + 1, hlt, by go_num, by rw [Nat.add_sub_cancel, HST.out]⟩, by simp [intOf]; omega⟩
      · obtain rfl : j = K + 1 := by omega
        have hb' : b = far false a K := by rw [HB.out, Nat.add_sub_cancel]
        have HB' := Lib.hid hb'
        have hi1 : ¬ ((K : Int) + 1 < (K : Int) + 1) := by omega
        clear hb'
        go_wp2
        go_ret
        exact ⟨ret_int (by rw [HB'.out]), rfl⟩
  · go_loop [5, 10] (fun b i => ∃ j : Nat, j ≤ K + 1 ∧ i = .int .i64 j ∧ b = .int .i64 (far true a (j - 1))) (fun _ i => K + 1 - (intOf i).toNat)
    case atStart => exact ⟨0, by omega, rfl, rfl⟩
    case round =>
      obtain ⟨j, hj, rfl, rfl⟩ := hrel
      obtain ⟨b, hb⟩ : ∃ b, b = far true a (j - 1) := ⟨_, rfl⟩
      rw [← hb]
      have HB := Lib.hid hb
      have hbl : b ≤ K := by have := far_le true a (j - 1); omega
      clear hb
      by_cases hlt : j < K + 1
      · have q := HC.out j (by omega)
        have qb := HC.out b hbl
        have hi1 : (j : Int) < (K : Int) + 1 := by omega
        have hi2 : (b : Int) < (K : Int) + 1 := by omega
        have hst : far true a j = if a b < a j then j else b := by
          cases j with
          | zero =>
            have hb0 : b = 0 := HB.out
            rw [hb0]; simp [far]
          | succ j => rw [far, HB.out, bet]; simp
        by_cases hc : a b < a j
        · have hst' : far true a j = j := by rw [hst, if_pos hc]
          have HST := Lib.hid hst'
          clear hst hst'
          go_wp2
          exact ⟨⟨j + 1, hlt, by go_num, by rw [Nat.add_sub_cancel, HST.out]⟩, by simp [intOf]; omega⟩
        · have hst' : far true a j = b := by rw [hst, if_neg hc]
          have HST := Lib.hid hst'
          clear hst hst'
          go_wp2
          exact ⟨⟨j + 1, hlt, by go_num, by rw [Nat.add_sub_cancel, HST.out]⟩, by simp [intOf]; omega⟩
      · obtain rfl : j = K + 1 := by omega
        have hb' : b = far true a K := by rw [HB.out, Nat.add_sub_cancel]
        have HB' := Lib.hid hb'
        have hi1 : ¬ ((K : Int) + 1 < (K : Int) + 1) := by omega
        clear hb'
        go_wp2
        go_ret
        exact ⟨ret_int (by rw [HB'.out]), rfl⟩

/-- The greatest (least) of a 0 .. a k. -/
def best (s : Bool) (a : Nat → Int) (k : Nat) : Int := a (far s a k)
theorem best_max (a : Nat → Int) (k : Nat) : best true a (k + 1) = if best true a k < a (k + 1) then a (k + 1) else best true a k := by
  unfold best
  rw [far, bet]
  by_cases h : a (far true a k) < a (k + 1)
  · simp [h]
  · simp [h]
theorem best_min (a : Nat → Int) (k : Nat) : best false a (k + 1) = if a (k + 1) < best false a k then a (k + 1) else best false a k := by
  unfold best
  rw [far, bet]
  by_cases h : a (k + 1) < a (far false a k)
  · simp [h]
  · simp [h]

set_option maxRecDepth 100000 in
set_option maxHeartbeats 1000000 in
theorem max_any (a : Nat → Int) (K g cap : Nat) (w : World) (hK : K ≤ 1000) (hc : ∀ j, j ≤ K → w.cell? ⟨g, j, none⟩ = some (.int .i64 (a j))) :
    Calls Try.prog 62 #[.slice (some ⟨g, 0, none⟩) (K + 1) cap] w fun e w' => e = .returned (.int .i64 (best true a K)) ∧ w = w' := by
  have HC := Lib.hid hc
  have hK2 : (K : Int) ≤ 1000 := by omega
  have q0 := hc 0 (Nat.zero_le _)
  clear hc
  go_enter Try.func62, Try.ntmps62
  go_wp2_with fail
  go_loop [3, 4] (fun m i => ∃ j : Nat, j ≤ K ∧ i = .int .i64 ((j : Int) + 1) ∧ m = .int .i64 (best true a j)) (fun _ i => K + 2 - (intOf i).toNat)
  case atStart => exact ⟨0, by omega, rfl, rfl⟩
  case round =>
    obtain ⟨j, hj, rfl, rfl⟩ := hrel
    have hst := best_max a j
    obtain ⟨m, hm⟩ : ∃ m, m = best true a j := ⟨_, rfl⟩
    rw [← hm] at hst ⊢
    have HM := Lib.hid hm
    clear hm
    by_cases hlt : j < K
    · have q := HC.out (j + 1) (by omega)
      have hi1 : (j : Int) + 1 < (K : Int) + 1 := by omega
      have HST := Lib.hid hst
      clear hst
      go_wp2
      exact ⟨⟨j + 1, hlt, by go_num, by rw [HST.out]⟩, by simp [intOf]; omega⟩
    · obtain rfl : j = K := by omega
      have hi1 : ¬ ((j : Int) + 1 < (j : Int) + 1) := by omega
      clear hst
      go_wp2
      go_ret
      exact ⟨ret_int HM.out, rfl⟩

set_option maxRecDepth 100000 in
set_option maxHeartbeats 1000000 in
theorem min_any (a : Nat → Int) (K g cap : Nat) (w : World) (hK : K ≤ 1000) (hc : ∀ j, j ≤ K → w.cell? ⟨g, j, none⟩ = some (.int .i64 (a j))) :
    Calls Try.prog 79 #[.slice (some ⟨g, 0, none⟩) (K + 1) cap] w fun e w' => e = .returned (.int .i64 (best false a K)) ∧ w = w' := by
  have HC := Lib.hid hc
  have hK2 : (K : Int) ≤ 1000 := by omega
  have q0 := hc 0 (Nat.zero_le _)
  clear hc
  go_enter Try.func79, Try.ntmps79
  go_wp2_with fail
  go_loop [3, 4] (fun m i => ∃ j : Nat, j ≤ K ∧ i = .int .i64 ((j : Int) + 1) ∧ m = .int .i64 (best false a j)) (fun _ i => K + 2 - (intOf i).toNat)
  case atStart => exact ⟨0, by omega, rfl, rfl⟩
  case round =>
    obtain ⟨j, hj, rfl, rfl⟩ := hrel
    have hst := best_min a j
    obtain ⟨m, hm⟩ : ∃ m, m = best false a j := ⟨_, rfl⟩
    rw [← hm] at hst ⊢
    have HM := Lib.hid hm
    clear hm
    by_cases hlt : j < K
    · have q := HC.out (j + 1) (by omega)
      have hi1 : (j : Int) + 1 < (K : Int) + 1 := by omega
      have HST := Lib.hid hst
      clear hst
      go_wp2
      exact ⟨⟨j + 1, hlt, by go_num, by rw [HST.out]⟩, by simp [intOf]; omega⟩
    · obtain rfl : j = K := by omega
      have hi1 : ¬ ((j : Int) + 1 < (j : Int) + 1) := by omega
      clear hst
      go_wp2
      go_ret
      exact ⟨ret_int HM.out, rfl⟩

end Go.Proofs.Ytponmblponfdaaa
