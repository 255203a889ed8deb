/-
  'vSame' and 'vSum' of the laws.
-/
import Derived.Test.YtebbafapcknllaaGoM
import Derived.WalkSmall
namespace Go.Proofs.Ytebbafapcknllaa
open Go.RowKit
set_option linter.unusedVariables false

set_option maxRecDepth 100000 in
set_option maxHeartbeats 1000000 in
theorem vSame_any (xs : List Int) (v v' : Value) (w : World) (hl : xs.length ≤ 1000000) (h : IntsIn w v xs) (h' : IntsIn w v' xs) :
    Calls Try.prog 20 #[v, v'] w fun e w' => e = .returned (.bool true) ∧ Below w.heap.size w w' := by
  obtain ⟨a, cap, rfl, hx⟩ := h
  obtain ⟨a', cap', rfl, hx'⟩ := h'
  obtain ⟨K, hK⟩ : ∃ K, K = xs.length := ⟨_, rfl⟩
  rw [← hK] at hl ⊢
  have HK := Lib.hid hK
  have hK1 : (K : Int) ≤ 1000000 := by omega
  have HX := Lib.hid hx
  have HX' := Lib.hid hx'
  clear hx hx' hK hl
  go_enter Try.func20, Try.ntmps20
  go_wp2_with fail
  go_loopw [13] (fun i wr => ∃ k : Nat, k ≤ K ∧ i = .int .i64 k ∧ Below w.heap.size w wr) (fun i _ => K - (intOf i).toNat)
  case atStart => exact ⟨0, Nat.zero_le _, rfl, Below.refl _ _⟩
  case round =>
    obtain ⟨k, hk, rfl, hb⟩ := hrel
    by_cases hlt : k < K
    · have hne : xs ≠ [] := by intro e; rw [e] at HK; have := HK.out; simp at this; omega
      obtain ⟨g, rfl, hg, hr⟩ := HX.out hne
      obtain ⟨g', rfl, hg', hr'⟩ := HX'.out hne
      have q : wr.cell? ⟨g, k, none⟩ = some (.int .i64 (xs.getD k 0)) := (hb.cell (p := ⟨g, k, none⟩) hg).trans (hr k (by rw [← HK.out]; exact hlt)).1
      have q' : wr.cell? ⟨g', k, none⟩ = some (.int .i64 (xs.getD k 0)) := (hb.cell (p := ⟨g', k, none⟩) hg').trans (hr' k (by rw [← HK.out]; exact hlt)).1
      generalize xs.getD k 0 = x at q q'
      have hk0 : (0 : Int) ≤ (k : Int) := by omega
      have hk1 : (k : Int) < (K : Int) := by omega
      clear hr hr' hne
      go_wp2
      try go_quiet (fail)
      try go_wp2
      exact ⟨⟨k + 1, hlt, by go_num, by first | exact hb | exact below_drewN hb _⟩, by simp [intOf]; omega⟩
    · obtain rfl : k = K := by omega
      go_wp2
      go_ret
      exact ⟨rfl, hb⟩

/-- The sum of the first k of a list. -/
def sumL (xs : List Int) : Nat → Int
  | 0 => 0
  | k + 1 => sumL xs k + xs.getD k 0
theorem sumL_bound {xs : List Int} (h : ∀ x ∈ xs, -1000000000000 ≤ x ∧ x ≤ 1000000000000) : ∀ k, k ≤ xs.length → -(1000000000000 * (k : Int)) ≤ sumL xs k ∧ sumL xs k ≤ 1000000000000 * (k : Int)
  | 0, _ => by simp [sumL]
  | k + 1, hk => by
    have := sumL_bound h k (by omega)
    have h2 := h (xs.getD k 0) (by simp [List.getD, show k < xs.length by omega])
    rw [sumL]
    omega

set_option maxRecDepth 100000 in
set_option maxHeartbeats 1000000 in
theorem vSum_any (xs : List Int) (v : Value) (w : World) (hl : xs.length ≤ 1001) (hn : ∀ x ∈ xs, -1000000000000 ≤ x ∧ x ≤ 1000000000000) (h : IntsIn w v xs) :
    Calls Try.prog 24 #[v] w fun e w' => e = .returned (.int .i64 (sumL xs xs.length)) ∧ w = w' := by
  obtain ⟨a, cap, rfl, hx⟩ := h
  have HB := Lib.hid (fun k hk => sumL_bound hn k hk)
  obtain ⟨K, hK⟩ : ∃ K, K = xs.length := ⟨_, rfl⟩
  rw [← hK] at hl HB ⊢
  have HK := Lib.hid hK
  have hK1 : (K : Int) ≤ 1001 := by omega
  have HX := Lib.hid hx
  clear hx hK hl hn
  go_enter Try.func24, Try.ntmps24
  go_wp2_with fail
  go_loop [3, 8] (fun s i => ∃ k : Nat, k ≤ K ∧ i = .int .i64 k ∧ s = .int .i64 (sumL xs k)) (fun _ i => K - (intOf i).toNat)
  case atStart => exact ⟨0, Nat.zero_le _, rfl, rfl⟩
  case round =>
    obtain ⟨k, hk, rfl, rfl⟩ := hrel
    by_cases hlt : k < K
    · have hne : xs ≠ [] := by intro e; rw [e] at HK; have := HK.out; simp at this; omega
      obtain ⟨g, rfl, hg, hr⟩ := HX.out hne
      have q := (hr k (by rw [← HK.out]; exact hlt)).1
      obtain ⟨s0, s1⟩ := HB.out k hk
      obtain ⟨z0, z1⟩ := HB.out (k + 1) hlt
      have HS : Hid (sumL xs (k + 1) = sumL xs k + xs.getD k 0) := Lib.hid rfl
      rw [HS.out] at z0 z1
      obtain ⟨s, hs⟩ : ∃ s, s = sumL xs k := ⟨_, rfl⟩
      rw [← hs] at s0 s1 z0 z1 HS ⊢
      generalize xs.getD k 0 = x at q z0 z1 HS
      have hk0 : (0 : Int) ≤ (k : Int) := by omega
      have hk1 : (k : Int) < (K : Int) := by omega
      have r0 : -9223372036854775808 ≤ s + x := by omega
      have r1 : s + x ≤ 9223372036854775807 := by omega
      clear hr hne hs s0 s1 z0 z1
      go_wp2
      exact ⟨⟨k + 1, hlt, by go_num, by rw [HS.out]⟩, by simp [intOf]; omega⟩
    · obtain rfl : k = K := by omega
      go_wp2
      go_ret
      exact ⟨rfl, rfl⟩
end Go.Proofs.Ytebbafapcknllaa
