/-
  WHICH WORDS FALL: 'falls' of the program, 'woPower', 'woFalls' of the model, at lengths up to 30.
-/
import Derived.Test.YtgobjobppajkbaaDoorLeaf
import Derived.Test.YtgobjobppajkbaaDoorFaM
import Derived.RegionTactic
import Derived.Deep.RegionWith
import Derived.Outline
namespace Go.Proofs.YtgobjobppajkbaaDoor
open Go.RowKit
set_option linter.unusedVariables false

theorem pow2_30 {k : Nat} (h : k ≤ 30) : (2 : Int) ^ k ≤ 1073741824 ∧ (0 : Int) < 2 ^ k := by
  refine ⟨?_, Int.pow_pos (by decide)⟩
  have : ∀ k : Fin 31, (2 : Int) ^ k.val ≤ 1073741824 := by decide
  exact this ⟨k, by omega⟩

set_option maxHeartbeats 2000000 in
theorem falls_any (t p : Int) (K L : Nat) (w : World) (hg : goodB t p = true) (hK : K ≤ 31) (hL : L ≤ 30) :
    Calls Tryd.prog 109 #[.agg #[.int .i64 t, .int .i64 p], .int .i64 (K : Int), .int .i64 (L : Int)] w fun e w' => e = .returned (.bool (fl t K L)) ∧ Below w.heap.size w w' := by
  obtain ⟨g1, g2, g3, g4, g5, g6⟩ := goodB_iff.1 hg
  have HE := Lib.hid (fun j (h1 : j ≤ K) (h2 : j = K ∨ ¬ t ^ j < 2 ^ L) => fl_end (t := t) g1 h1 h2)
  have HPP : Hid (∀ j : Nat, (0 : Int) < t ^ j) := Lib.hid (fun j => Int.pow_pos (by omega))
  have hK1 : (K : Int) ≤ 31 := by omega
  have hL1 : (L : Int) ≤ 30 := by omega
  obtain ⟨pw1, pw0⟩ := pow2_30 hL
  have hwr : IntKind.i64.wrap ((2 : Int) ^ L) = 2 ^ L := by rw [IntKind.wrap_i64]; omega
  have HQ : Hid ((2 : Int) ^ L = 2 ^ L) := Lib.hid rfl
  clear hg g3 g4 g5 g6
  go_enter Tryd.func109, Tryd.ntmps109
  go_wp2_with fail
  go_loopw [7, 8] (fun x y wr => wr = w.alloc (.cells #[.int .i64 t, .int .i64 p] 27) ∧ ∃ j : Nat, j ≤ K ∧ x = .int .i64 (t ^ j) ∧ y = .int .i64 j) (fun _ y _ => K - (intOf y).toNat)
  case atStart => exact ⟨rfl, 0, by omega, by simp, rfl⟩
  case round =>
    obtain ⟨rfl, j, hj, rfl, rfl⟩ := hrel
    have hp0 := HPP.out j
    by_cases hlt : j < K
    · have hjK : (j : Int) < (K : Int) := by omega
      by_cases hp : t ^ j < 2 ^ L
      · have HS := Lib.hid (Int.pow_succ t j)
        obtain ⟨P, hP⟩ : ∃ P, P = t ^ j := ⟨_, rfl⟩
        rw [← hP] at hp0 hp HS ⊢
        have hm := mul_bound (t := t) (n := P) (B := 1073741824) g1 g2 (by omega) (by omega)
        rw [Int.mul_comm t P] at hm
        have hd : decide (P < 2 ^ L) = true := by simpa using hp
        clear hP
        go_wp2_with fail
        exact ⟨⟨by trivial, j + 1, hlt, by rw [HS.out], by go_num⟩, by simp [intOf]; omega⟩
      · have HEJ := Lib.hid (HE.out j hj (.inr (Int.not_lt.1 hp)))
        obtain ⟨P, hP⟩ : ∃ P, P = t ^ j := ⟨_, rfl⟩
        rw [← hP] at hp0 hp HEJ ⊢
        have hd : decide (P < 2 ^ L) = false := by simpa using hp
        rw [hd] at HEJ
        clear hP
        go_wp2_with fail
        go_ret
        exact ⟨ret_bool HEJ.out, (Below.refl _ _).alloc (Nat.le_refl _) _⟩
    · obtain rfl : j = K := by omega
      have hjj : ¬ ((j : Int) < (j : Int)) := by omega
      have HEJ := Lib.hid (HE.out j (Nat.le_refl _) (.inl rfl))
      obtain ⟨P, hP⟩ : ∃ P, P = t ^ j := ⟨_, rfl⟩
      rw [← hP] at HEJ ⊢
      clear hP
      go_wp2_with fail
      go_ret
      exact ⟨ret_bool HEJ.out, (Below.refl _ _).alloc (Nat.le_refl _) _⟩

/-- What woPower comes to. -/
def wpw (t : Int) (K : Nat) : Int := if t ^ K ≤ 4611686018427387904 then t ^ K else 4611686018427387905
theorem wpw_yes {t : Int} {K : Nat} (h : t ^ K ≤ 4611686018427387904) : wpw t K = t ^ K := if_pos h
theorem wpw_no {t : Int} {j K : Nat} (ht : 1 ≤ t) (hjK : j < K) (h : 4611686018427387904 < t ^ j * t) : wpw t K = 4611686018427387905 := by
  have := pow_mono ht (show j + 1 ≤ K by omega)
  rw [Int.pow_succ] at this
  rw [wpw, if_neg (by omega)]
theorem wpw_fl (t : Int) (K : Nat) {L : Nat} (hL : L ≤ 30) : decide (wpw t K < 2 ^ L) = fl t K L := by
  have := (pow2_30 hL).1
  unfold wpw fl
  split
  · rfl
  · rw [decide_eq_false (by omega), decide_eq_false (by omega)]
theorem wpw_range {t : Int} (ht : 1 ≤ t) (K : Nat) : 1 ≤ wpw t K ∧ wpw t K ≤ 4611686018427387905 := by
  have : (0 : Int) < t ^ K := Int.pow_pos (by omega)
  unfold wpw
  split <;> omega
theorem quot_mul {t P q : Int} (ht : t = 1 ∨ t = 2 ∨ t = 3 ∨ t = 4 ∨ t = 5 ∨ t = 6 ∨ t = 7 ∨ t = 8 ∨ t = 9) (hq : q = 4611686018427387904 / t) : (q < P → 4611686018427387904 < P * t) ∧ (¬ q < P → P * t ≤ 4611686018427387904) := by
  subst hq
  rcases ht with rfl | rfl | rfl | rfl | rfl | rfl | rfl | rfl | rfl <;> omega

set_option maxHeartbeats 2000000 in
theorem woPower_big (t p : Int) (K : Nat) (w : World) (hg : goodB t p = true) (hK : K ≤ 31) :
    Calls Tryd.prog 107 #[.agg #[.int .i64 t, .int .i64 p], .int .i64 (K : Int)] w fun e w' => e = .returned (.int .i64 (wpw t K)) ∧ Below w.heap.size w w' := by
  obtain ⟨g1, g2, g3, g4, g5, g6⟩ := goodB_iff.1 hg
  have hK1 : (K : Int) ≤ 31 := by omega
  have hne : (t == 0) = false := by simp; omega
  have HT9 : Hid (t = 1 ∨ t = 2 ∨ t = 3 ∨ t = 4 ∨ t = 5 ∨ t = 6 ∨ t = 7 ∨ t = 8 ∨ t = 9) := Lib.hid (by omega)
  have HPP : Hid (∀ j : Nat, (0 : Int) < t ^ j) := Lib.hid (fun j => Int.pow_pos (by omega))
  have HNO := Lib.hid (fun j (h1 : j < K) h2 => wpw_no (t := t) (j := j) (K := K) g1 h1 h2)
  have HYES := Lib.hid (fun h => wpw_yes (t := t) (K := K) h)
  obtain ⟨q, hq⟩ : ∃ q, q = (4611686018427387904 : Int) / t := ⟨_, rfl⟩
  have HQ := Lib.hid (fun P => quot_mul (P := P) HT9.out hq)
  have hqd : (4611686018427387904 : Int) / t = q := hq.symm
  clear hg g3 g4 g5 g6 hq
  go_enter Tryd.func107, Tryd.ntmps107
  go_wp2_with fail
  go_loopw [1, 5] (fun x y wr => wr = w.alloc (.cells #[.int .i64 t, .int .i64 p] 27) ∧ ∃ j : Nat, j ≤ K ∧ t ^ j ≤ 4611686018427387904 ∧ x = .int .i64 ((K : Int) - j) ∧ y = .int .i64 (t ^ j)) (fun x _ _ => (intOf x).toNat)
  case atStart => exact ⟨rfl, 0, by omega, by simp, by simp, by simp⟩
  case round =>
    obtain ⟨rfl, j, hj, hbnd, rfl, rfl⟩ := hrel
    by_cases hlt : j < K
    · have hgt : 0 < (K : Int) - j := by omega
      have hp0 := HPP.out j
      have HS := Lib.hid (Int.pow_succ t j)
      have HNJ := Lib.hid (fun h => HNO.out j hlt h)
      obtain ⟨P, hP⟩ : ∃ P, P = t ^ j := ⟨_, rfl⟩
      rw [← hP] at hp0 HS hbnd HNJ ⊢
      obtain ⟨q1, q2⟩ := HQ.out P
      by_cases hlq : q < P
      · have hd : decide (q < P) = true := by simpa using hlq
        have HR := Lib.hid (HNJ.out (q1 hlq))
        clear hP q1 q2 hlq
        go_wp2_with fail
        go_ret
        exact ⟨ret_int HR.out.symm, (Below.refl _ _).alloc (Nat.le_refl _) _⟩
      · have hd : decide (q < P) = false := by simpa using hlq
        have hm := q2 (Int.not_lt.1 hlq)
        have hm0 : 0 < P * t := Int.mul_pos hp0 (by omega)
        clear hP q1 q2 hlq
        go_wp2_with fail
        exact ⟨⟨by trivial, j + 1, hlt, by rw [HS.out]; exact hm, by first | rfl | (congr 1; omega), by rw [HS.out]⟩, by simp [intOf]; omega⟩
    · obtain rfl : j = K := by omega
      have hgt : ¬ (0 < (j : Int) - j) := by omega
      have HR := Lib.hid (HYES.out hbnd)
      clear hbnd
      go_wp2_with fail
      go_ret
      exact ⟨ret_int HR.out.symm, (Below.refl _ _).alloc (Nat.le_refl _) _⟩

set_option maxHeartbeats 2000000 in
theorem woFalls_big (t p : Int) (K L : Nat) (w : World) (hg : goodB t p = true) (hK : K ≤ 31) (hL : L ≤ 30) :
    Calls Tryd.prog 75 #[.agg #[.int .i64 t, .int .i64 p], .int .i64 (K : Int), .int .i64 (L : Int)] w fun e w' => e = .returned (.bool (fl t K L)) ∧ Below w.heap.size w w' := by
  have HF := Lib.hid (wpw_fl t K hL)
  have HP := Lib.hid (fun w => woPower_big t p K w hg hK)
  have hL1 : (L : Int) ≤ 30 := by omega
  obtain ⟨pw1, pw0⟩ := pow2_30 hL
  have hwr : IntKind.i64.wrap ((2 : Int) ^ L) = 2 ^ L := by rw [IntKind.wrap_i64]; omega
  rw [← HF.out]
  generalize wpw t K = P at HP ⊢
  clear hg
  go_enter Tryd.func75, Tryd.ntmps75
  go_wp2_with fail
  go_region_with (go_at_call 107; refine (HP.out _).mono ?_; rintro e w' ⟨rfl, hb⟩)
  all_goals
    go_wp2_with fail
    go_ret
    refine ⟨rfl, ?_⟩
    first
      | exact ((Below.refl _ w).alloc (Nat.le_refl _) _).trans (hb.mono (by simp))
      | exact ((Below.refl _ w).alloc (Nat.le_refl _) _).drew.trans (hb.mono (by simp))
end Go.Proofs.YtgobjobppajkbaaDoor
