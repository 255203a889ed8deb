/-
  THE GREATEST AND THE LEAST NUMBER OF A PATH: 'mpFar' of the model; 'slices.Max', 'slices.Min', 'slices.Index' of the library at slices of integers.
-/
import Derived.Test.YtmocbkpfoddffaaDoorSum
import Derived.WalkLawsBesides
namespace Go.Proofs.YtmocbkpfoddffaaDoor
open Go.RowKit
set_option linter.unusedVariables false

/-- Is x greater (s), or less, than y? -/
def bet (s : Bool) (x y : Int) : Bool := if s = true then decide (y < x) else decide (x < y)
/-- The first place of the greatest (least) of a 0 .. a k. -/
def far (s : Bool) (a : Nat → Int) : Nat → Nat
  | 0 => 0
  | k + 1 => if bet s (a (k + 1)) (a (far s a k)) = true then k + 1 else far s a k
theorem far_le (s : Bool) (a : Nat → Int) (k : Nat) : far s a k ≤ k := by
  induction k with
  | zero => exact Nat.le_refl _
  | succ k ih => rw [far]; split <;> omega
theorem far_best (s : Bool) (a : Nat → Int) (k : Nat) : (∀ j, j ≤ k → bet s (a j) (a (far s a k)) = false) ∧ ∀ j, j < far s a k → bet s (a (far s a k)) (a j) = true := by
  induction k with
  | zero =>
    refine ⟨fun j hj => ?_, fun j hj => absurd hj (by simp [far])⟩
    obtain rfl : j = 0 := by omega
    cases s <;> simp [bet, far]
  | succ k ih =>
    obtain ⟨h1, h2⟩ := ih
    rw [far]
    split
    · rename_i hb
      refine ⟨fun j hj => ?_, fun j hj => ?_⟩
      · by_cases e : j = k + 1
        · subst e; cases s <;> simp [bet]
        · have := h1 j (by omega)
          cases s <;> simp [bet] at * <;> omega
      · have := h1 j (by omega)
        cases s <;> simp [bet] at * <;> omega
    · rename_i hb
      refine ⟨fun j hj => ?_, h2⟩
      by_cases e : j = k + 1
      · subst e; simpa using hb
      · exact h1 j (by omega)

/-- The greatest (least) of a 0 .. a k. -/
def best (s : Bool) (a : Nat → Int) (k : Nat) : Int := a (far s a k)
theorem best_max (a : Nat → Int) (k : Nat) : best true a (k + 1) = if best true a k < a (k + 1) then a (k + 1) else best true a k := by
  unfold best
  rw [far, bet]
  by_cases h : a (far true a k) < a (k + 1)
  · simp [h]
  · simp [h]
theorem best_min (a : Nat → Int) (k : Nat) : best false a (k + 1) = if a (k + 1) < best false a k then a (k + 1) else best false a k := by
  unfold best
  rw [far, bet]
  by_cases h : a (k + 1) < a (far false a k)
  · simp [h]
  · simp [h]

set_option maxRecDepth 100000 in
set_option maxHeartbeats 1000000 in
theorem min_any (a : Nat → Int) (K g cap : Nat) (w : World) (hK : K ≤ 1000) (hc : ∀ j, j ≤ K → w.cell? ⟨g, j, none⟩ = some (.int .i64 (a j))) :
    Calls Tryd.prog 54 #[.slice (some ⟨g, 0, none⟩) (K + 1) cap] w fun e w' => e = .returned (.int .i64 (best false a K)) ∧ w = w' := by
  have HC := Lib.hid hc
  have hK2 : (K : Int) ≤ 1000 := by omega
  have q0 := hc 0 (Nat.zero_le _)
  clear hc
  go_enter Tryd.func54, Tryd.ntmps54
  go_wp2_with fail
  go_loop [3, 4] (fun m i => ∃ j : Nat, j ≤ K ∧ i = .int .i64 ((j : Int) + 1) ∧ m = .int .i64 (best false a j)) (fun _ i => K + 2 - (intOf i).toNat)
  case atStart => exact ⟨0, by omega, rfl, rfl⟩
  case round =>
    obtain ⟨j, hj, rfl, rfl⟩ := hrel
    have hst := best_min a j
    obtain ⟨m, hm⟩ : ∃ m, m = best false a j := ⟨_, rfl⟩
    rw [← hm] at hst ⊢
    have HM := Lib.hid hm
    clear hm
    by_cases hlt : j < K
    · have q := HC.out (j + 1) (by omega)
      have hi1 : (j : Int) + 1 < (K : Int) + 1 := by omega
      have HST := Lib.hid hst
      clear hst
      go_wp2
      exact ⟨⟨j + 1, hlt, by go_num, by rw [HST.out]⟩, by simp [intOf]; omega⟩
    · obtain rfl : j = K := by omega
      have hi1 : ¬ ((j : Int) + 1 < (j : Int) + 1) := by omega
      clear hst
      go_wp2
      go_ret
      exact ⟨ret_int HM.out, rfl⟩

set_option maxRecDepth 100000 in
set_option maxHeartbeats 1000000 in
/-- The first place at which a number stands, where it does. -/
theorem index_any (a : Nat → Int) (K g cap b : Nat) (v : Int) (w : World) (hK : K ≤ 1000) (hb : b ≤ K) (hv : a b = v) (hfirst : ∀ j, j < b → a j ≠ v) (hc : ∀ j, j ≤ K → w.cell? ⟨g, j, none⟩ = some (.int .i64 (a j))) :
    Calls Tryd.prog 55 #[.slice (some ⟨g, 0, none⟩) (K + 1) cap, .int .i64 v] w fun e w' => e = .returned (.int .i64 b) ∧ w = w' := by
  have HC := Lib.hid hc
  have HV := Lib.hid hv
  have HF := Lib.hid hfirst
  have hK2 : (K : Int) ≤ 1000 := by omega
  clear hc hv hfirst
  go_enter Tryd.func55, Tryd.ntmps55
  go_wp2_with fail
  go_loop [8] (fun i => ∃ j : Nat, j ≤ b ∧ i = .int .i64 j) (fun i => K + 1 - (intOf i).toNat)
  case atStart => exact ⟨0, by omega, rfl⟩
  case round =>
    obtain ⟨j, hj, rfl⟩ := hrel
    have q := HC.out j (by omega)
    have hi1 : (j : Int) < (K : Int) + 1 := by omega
    by_cases he : j = b
    · have heq : (v == a j) = true := by rw [he, HV.out]; simp
      have HE := Lib.hid he
      clear he
      go_wp2
      go_ret
      exact ⟨by rw [← HE.out]; rfl, rfl⟩
    · have heq : (v == a j) = false := by
        have := HF.out j (by omega)
        simpa using fun e => this e.symm
      have hj2 : j + 1 ≤ b := by omega
      clear he
      go_wp2
      exact ⟨⟨j + 1, hj2, by go_num⟩, by simp [intOf]; omega⟩
end Go.Proofs.YtmocbkpfoddffaaDoor
