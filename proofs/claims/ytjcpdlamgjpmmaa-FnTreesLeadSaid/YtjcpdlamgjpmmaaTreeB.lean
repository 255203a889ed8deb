/-
  'trOdd' of the model: the odd number before a number; 'OddBefore' of both.
-/
import Derived.Test.YtjcpdlamgjpmmaaTreeA
namespace Go.Proofs.Ytjcpdlamgjpmmaa
open Go.RowKit
set_option linter.unusedVariables false

theorem numB_wide' {n : Int} (h : numB n = true) : -100000000000000 ≤ n ∧ n ≤ 100000000000000 := by have := numB_iff.1 h; omega
theorem tdiv_bounds {t p n : Int} (hg : goodB t p = true) (n1 : -100000000000000 ≤ n) (n2 : n ≤ 100000000000000) :
    -100000000000009 ≤ (n - p).tdiv t ∧ (n - p).tdiv t ≤ 100000000000009 ∧ -900000000000100 ≤ (n - p).tdiv t * t ∧ (n - p).tdiv t * t ≤ 900000000000100 := by
  obtain ⟨g1, g2, _, g4, g5, _⟩ := goodB_iff.1 hg
  have h1 := Int.mul_tdiv_add_tmod (n - p) t
  have h2 := Int.tmod_lt_of_pos (n - p) (show 0 < t by omega)
  have h3 := Int.lt_tmod_of_pos (n - p) (show 0 < t by omega)
  generalize (n - p).tdiv t = q at *
  generalize (n - p).tmod t = r at *
  have ht : t = 1 ∨ t = 2 ∨ t = 3 ∨ t = 4 ∨ t = 5 ∨ t = 6 ∨ t = 7 ∨ t = 8 ∨ t = 9 := by omega
  rcases ht with rfl | rfl | rfl | rfl | rfl | rfl | rfl | rfl | rfl <;> omega
theorem oddBf_isSome (t p n : Int) : (oddBf t p n).isSome = decide ((n - p).tdiv t * t + p = n ∧ (n - p).tdiv t % 2 ≠ 0 ∧ numB ((n - p).tdiv t) = true) := by
  unfold oddBf
  split
  · rename_i h; simp [h]
  · rename_i h; simp [h]
theorem oddBf_eq {t p n x : Int} (h : oddBf t p n = some x) : x = (n - p).tdiv t := by
  unfold oddBf at h
  split at h <;> cases h
  rfl
theorem ret_ib {a a' : Int} {b b' : Bool} (h : a = a') (h' : b = b') : Ending.returned (.tuple #[.int .i64 a, .bool b]) = .returned (.tuple #[.int .i64 a', .bool b']) := by rw [h, h']
theorem ret_bb {a a' : Bool} {b b' : Bool} (h : a = a') (h' : b = b') : Ending.returned (.tuple #[.bool a, .bool b]) = .returned (.tuple #[.bool a', .bool b']) := by rw [h, h']
set_option maxHeartbeats 2000000 in
theorem trOdd_any (t p n : Int) (w : World) (hg : goodB t p = true) (n1 : -100000000000000 ≤ n) (n2 : n ≤ 100000000000000) :
    Calls Try.prog 37 #[.agg #[.int .i64 t, .int .i64 p], .int .i64 n] w fun e w' => e = .returned (.tuple #[.int .i64 ((n - p).tdiv t), .bool (oddBf t p n).isSome]) ∧ Below w.heap.size w w' := by
  obtain ⟨g1, g2, _, g4, g5, _⟩ := goodB_iff.1 hg
  have HI := Lib.hid (oddBf_isSome t p n)
  obtain ⟨b1, b2, b3, b4⟩ := tdiv_bounds hg n1 n2
  have HB := Lib.hid ((Below.refl _ w).alloc (Nat.le_refl _) (.cells #[.int .i64 t, .int .i64 p] 25))
  obtain ⟨x, hx⟩ : ∃ x, (n - p).tdiv t = x := ⟨_, rfl⟩
  rw [hx] at HI b1 b2 b3 b4
  have HX := Lib.hid hx
  have HM := Lib.hid (fun w => mpIs_any x w)
  generalize (oddBf t p n).isSome = ob at HI ⊢
  clear hg
  by_cases e1 : x * t + p = n
  · by_cases e2 : x.tmod 2 = 0
    · obtain rfl : ob = false := by
        rw [HI.out, decide_eq_false_iff_not]
        rintro ⟨_, h, _⟩
        have := tmod2 x
        omega
      clear HI
      go_enter Try.func37, Try.ntmps37
      go_wp2_with fail
      go_ret2
      exact ⟨ret_ib HX.out.symm rfl, HB.out⟩
    · obtain rfl : ob = numB x := by
        rw [HI.out, Bool.eq_iff_iff, decide_eq_true_eq]
        have := tmod2 x
        exact ⟨fun h => h.2.2, fun h => ⟨e1, by omega, h⟩⟩
      clear HI
      go_enter Try.func37, Try.ntmps37
      go_wp2_with (go_at_call 36; refine (HM.out _).mono ?_; rintro e w' ⟨rfl, rfl⟩)
      go_ret2
      refine ⟨ret_ib HX.out.symm ?_, HB.out⟩
      show (x.tmod 2 != 0 && numB x) = numB x
      simp [e2]
  · obtain rfl : ob = false := by
      rw [HI.out, decide_eq_false_iff_not]
      exact fun h => e1 h.1
    clear HI
    go_enter Try.func37, Try.ntmps37
    go_wp2_with fail
    go_ret2
    exact ⟨ret_ib HX.out.symm rfl, HB.out⟩
end Go.Proofs.Ytjcpdlamgjpmmaa
