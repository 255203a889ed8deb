/-
  WHAT A NUMBER IS MADE OF: 'dividedOut', 'ExponentsOf' of the program, 'maFactors', 'ExponentsOf' of the model.
-/
import Derived.Test.YtkikmmnmppikpaaPairsM
import Derived.Test.YtkikmmnmppikpaaMaM
import Derived.RegionTactic
namespace Go.Proofs.Ytkikmmnmppikpaa
open Go.RowKit
set_option linter.unusedVariables false

theorem maIs_any (n : Int) (w : World) :
    Calls Try.prog 48 #[.int .i64 n] w fun e w' => e = .returned (.bool (manB n)) ∧ w = w' := by
  go_enter Try.func48, Try.ntmps48
  go_wp2_with (go_at_call 47; refine (l1In_any _ _ _ _).mono ?_; rintro e w' ⟨rfl, rfl⟩)
  go_ret
  exact ⟨rfl, rfl⟩
theorem isMade_any (n : Int) (w : World) :
    Calls Try.prog 51 #[.int .i64 n] w fun e w' => e = .returned (.bool (manB n)) ∧ w = w' := by
  by_cases h1 : 1 ≤ n
  all_goals
    go_enter Try.func51, Try.ntmps51
    go_wp2_with (go_at_call 43; refine (isNumber_any _ _).mono ?_; rintro e w' ⟨rfl, rfl⟩)
    go_ret
    refine ⟨ret_bool ?_, rfl⟩
    rw [Bool.eq_iff_iff, manB_iff]
    simp only [numB_iff, Bool.false_eq_true, false_iff]
    omega

theorem ret_2n {x : Int × Nat} {a b : Int} (h : x.1 = a) (h' : (x.2 : Int) = b) : Ending.returned (.tuple #[.int .i64 a, .int .i64 b]) = .returned (.tuple #[.int .i64 x.1, .int .i64 (x.2 : Int)]) := by rw [h, h']

set_option maxHeartbeats 1000000 in
theorem dividedOut_any (n p : Int) (w : World) (h2 : 2 ≤ p) (hp : p ≤ 1000000000001) (h1 : 1 ≤ n) (hn : n ≤ 1000000000000) :
    Calls Try.prog 106 #[.int .i64 n, .int .i64 p] w fun e w' => e = .returned (.tuple #[.int .i64 (dvo p n).1, .int .i64 ((dvo p n).2 : Int)]) ∧ w = w' := by
  have hK := dvo_few h2 40 h1 (by have : (2 : Int) ^ 40 = 1099511627776 := by decide
                                  omega)
  obtain ⟨D, hD⟩ : ∃ D, dvo p n = D := ⟨_, rfl⟩
  rw [hD] at hK ⊢
  have HD := Lib.hid hD
  have HK := Lib.hid hK
  have hp0 : ¬ p = 0 := by omega
  clear hD hK
  go_enter Try.func106, Try.ntmps106
  go_wp2
  go_loop [0, 6] (fun x k => ∃ (u : Int) (j : Nat), x = .int .i64 u ∧ k = .int .i64 (j : Int) ∧ 1 ≤ u ∧ u ≤ n ∧ (dvo p u).1 = D.1 ∧ j + (dvo p u).2 = D.2) (fun x _ => (RowKit.intOf x).natAbs)
  case atStart => exact ⟨n, 0, rfl, rfl, h1, Int.le_refl _, by rw [HD.out], by rw [HD.out]; omega⟩
  case round =>
    obtain ⟨u, j, rfl, rfl, u1, un, e1, e2⟩ := hrel
    have HE1 := Lib.hid e1
    have HE2 := Lib.hid e2
    have hj : (j : Int) ≤ 40 := by have := HK.out; omega
    clear e1 e2
    by_cases hm : u % p = 0
    · obtain ⟨a, b, c⟩ := ediv_shrink h2 (by omega) hm
      have HY := Lib.hid (dvo_yes h2 (show 0 < u by omega) hm)
      have HAB := Lib.hid (And.intro a b)
      have hb0 : 0 ≤ u / p := by omega
      have hb1 : u / p ≤ 1000000000000 := by omega
      clear a b c
      go_wp2
      exact ⟨⟨u / p, j + 1, rfl, by go_num, by have := HAB.out; omega, by have := HAB.out; omega, by rw [← HE1.out, HY.out], by rw [← HE2.out, HY.out]; dsimp only; omega⟩, by have := HAB.out; simp only [RowKit.intOf]; omega⟩
    · have HN := Lib.hid (dvo_no (p := p) (n := u) hm)
      go_wp2
      go_ret2
      exact ⟨ret_2n (by rw [← HE1.out, HN.out]) (by rw [← HE2.out, HN.out]; simp), rfl⟩
end Go.Proofs.Ytkikmmnmppikpaa
