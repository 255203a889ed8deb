/-
  POWERS: 'woPower', 'woFalls' of the model, 'powerAbove' of the program.
-/
import Derived.Test.YtipefnhmihpdaaaDoorLeaf
import Derived.Test.YtipefnhmihpdaaaDoorWord
import Derived.Test.YtipefnhmihpdaaaDoorPowM
import Derived.Test.YtipefnhmihpdaaaDoorShelf
import Derived.RegionTactic
import Derived.Deep.RegionWith
import Derived.Outline
namespace Go.Proofs.YtipefnhmihpdaaaDoor
open Go.RowKit
set_option linter.unusedVariables false

set_option maxHeartbeats 2000000 in
theorem woPower_any (t p : Int) (K : Nat) (w : World) (hg : goodB t p = true) (hK : K ≤ 15) :
    Calls Tryd.prog 47 #[.agg #[.int .i64 t, .int .i64 p], .int .i64 (K : Int)] w fun e w' => e = .returned (.int .i64 (t ^ K)) ∧ Below w.heap.size w w' := by
  have HG := Lib.hid hg
  obtain ⟨g1, g2, g3, g4, g5, g6⟩ := goodB_iff.1 hg
  have hK1 : (K : Int) ≤ 15 := by omega
  have hne : (t == 0) = false := by simp; omega
  clear hg g3 g4 g5 g6
  go_enter Tryd.func47, Tryd.ntmps47
  go_wp2_with fail
  go_loopw [1, 5] (fun x y wr => wr = w.alloc (.cells #[.int .i64 t, .int .i64 p] 26) ∧ ∃ j : Nat, j ≤ K ∧ x = .int .i64 ((K : Int) - j) ∧ y = .int .i64 (t ^ j)) (fun x _ _ => (intOf x).toNat)
  case atStart => exact ⟨rfl, 0, by omega, by simp, by simp⟩
  case round =>
    obtain ⟨rfl, j, hj, rfl, rfl⟩ := hrel
    by_cases hlt : j < K
    · have hgt : 0 < (K : Int) - j := by omega
      obtain ⟨p0, p1⟩ := pow_t14 HG.out (k := j) (by omega)
      have HS := Lib.hid (Int.pow_succ t j)
      obtain ⟨P, hP⟩ : ∃ P, P = t ^ j := ⟨_, rfl⟩
      rw [← hP] at p0 p1 HS ⊢
      have hm := mul_bound (t := t) (n := P) (B := 22876792454961) g1 g2 (by omega) p1
      rw [Int.mul_comm t P] at hm
      have hq : 400000000000000000 ≤ (4611686018427387904 : Int) / t := by
        have ht : t = 1 ∨ t = 2 ∨ t = 3 ∨ t = 4 ∨ t = 5 ∨ t = 6 ∨ t = 7 ∨ t = 8 ∨ t = 9 := by omega
        rcases ht with rfl | rfl | rfl | rfl | rfl | rfl | rfl | rfl | rfl <;> decide
      have hd : decide ((4611686018427387904 : Int) / t < P) = false := by simp; omega
      clear hP
      go_wp2_with fail
      exact ⟨⟨by trivial, j + 1, hlt, by first | rfl | (congr 1; omega), by rw [HS.out]⟩, by simp [intOf]; omega⟩
    · obtain rfl : j = K := by omega
      have hgt : ¬ (0 < (j : Int) - j) := by omega
      go_wp2_with fail
      go_ret
      exact ⟨rfl, (Below.refl _ _).alloc (Nat.le_refl _) _⟩

set_option maxHeartbeats 2000000 in
theorem powerAbove_any (t p : Int) (K : Nat) (w : World) (hg : goodB t p = true) (hK : K ≤ 20) :
    Calls Tryd.prog 48 #[.agg #[.int .i64 t, .int .i64 p], .int .i64 (K : Int)] w fun e w' => e = .returned (.int .i64 (bl t K : Nat)) ∧ Below w.heap.size w w' := by
  have HG := Lib.hid hg
  obtain ⟨g1, g2, g3, g4, g5, g6⟩ := goodB_iff.1 hg
  have hK1 : (K : Int) ≤ 20 := by omega
  have hwt : IntKind.u64.wrap t = t := by rw [IntKind.wrap_u64]; omega
  have HL : Hid (∀ w, Calls Tryd.prog 51 #[.int .u64 (t ^ K)] w fun e w' => e = .returned (.int .i64 (bl t K : Nat)) ∧ w' = w) := Lib.hid (fun w => by
    obtain ⟨h1, h2⟩ := pow_t20 hg hK
    exact Tryd.bits_Len64 (t ^ K) w (by omega) (by omega))
  clear hg g3 g4 g5 g6
  go_enter Tryd.func48, Tryd.ntmps48
  go_wp2_with fail
  go_loopw [5, 7] (fun y x wr => wr = w.alloc (.cells #[.int .i64 t, .int .i64 p] 26) ∧ ∃ j : Nat, j ≤ K ∧ x = .int .i64 j ∧ y = .int .u64 (t ^ j)) (fun _ x _ => K - (intOf x).toNat)
  case atStart => exact ⟨rfl, 0, by omega, rfl, by simp⟩
  case round =>
    obtain ⟨rfl, j, hj, rfl, rfl⟩ := hrel
    by_cases hlt : j < K
    · have hjK : (j : Int) < (K : Int) := by omega
      have HS := Lib.hid (Int.pow_succ t j)
      have hwp : IntKind.u64.wrap (t ^ j * t) = t ^ j * t := by
        obtain ⟨h1, h2⟩ := pow_t20 HG.out (k := j + 1) (by omega)
        rw [Int.pow_succ] at h1 h2
        rw [IntKind.wrap_u64]; omega
      obtain ⟨P, hP⟩ : ∃ P, P = t ^ j := ⟨_, rfl⟩
      rw [← hP] at hwp HS ⊢
      clear hP
      go_wp2_with fail
      exact ⟨⟨by trivial, j + 1, hlt, by go_num, by rw [HS.out]⟩, by simp [intOf]; omega⟩
    · obtain rfl : j = K := by omega
      have hjj : ¬ ((j : Int) < (j : Int)) := by omega
      go_wp2_with fail
      refine (HL.out _).mono ?_
      rintro e w' ⟨rfl, rfl⟩
      go_wp2_with fail
      go_ret
      exact ⟨rfl, (Below.refl _ _).alloc (Nat.le_refl _) _⟩

set_option maxHeartbeats 2000000 in
theorem woFalls_any (t p : Int) (K L : Nat) (w : World) (hg : goodB t p = true) (hK : K ≤ 15) (hL : L ≤ 15) :
    Calls Tryd.prog 34 #[.agg #[.int .i64 t, .int .i64 p], .int .i64 (K : Int), .int .i64 (L : Int)] w fun e w' => e = .returned (.bool (decide (bl t K ≤ L))) ∧ Below w.heap.size w w' := by
  have HF := Lib.hid (falls_iff hg (k := K) (by omega) L)
  have HP := Lib.hid (fun w => woPower_any t p K w hg hK)
  have hL1 : (L : Int) ≤ 15 := by omega
  obtain ⟨pw1, pw0⟩ := pow2_le hL
  have hwr : IntKind.i64.wrap ((2 : Int) ^ L) = 2 ^ L := by rw [IntKind.wrap_i64]; omega
  rw [HF.out]
  generalize t ^ K = P at HP ⊢
  clear hg
  go_enter Tryd.func34, Tryd.ntmps34
  go_wp2_with fail
  go_region_with (go_at_call 47; refine (HP.out _).mono ?_; rintro e w' ⟨rfl, hb⟩)
  all_goals
    go_wp2_with fail
    go_ret
    refine ⟨rfl, ?_⟩
    first
      | exact ((Below.refl _ w).alloc (Nat.le_refl _) _).trans (hb.mono (by simp))
      | exact ((Below.refl _ w).alloc (Nat.le_refl _) _).drew.trans (hb.mono (by simp))
end Go.Proofs.YtipefnhmihpdaaaDoor
