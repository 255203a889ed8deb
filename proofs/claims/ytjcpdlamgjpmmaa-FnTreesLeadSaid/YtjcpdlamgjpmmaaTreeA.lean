/-
  'comesFromOdd', 'oddTo' of the program; 'trOdd' of the model: the odd number before a number.
-/
import Derived.Test.YtjcpdlamgjpmmaaPutM
import Derived.Test.YtjcpdlamgjpmmaaLeaf
namespace Go.Proofs.Ytjcpdlamgjpmmaa
open Go.RowKit
set_option linter.unusedVariables false

theorem comesP_even {t p n : Int} (h : n % 2 = 0) : comesP t p n = ((n - p).tmod t == 0) := by
  rw [Bool.eq_iff_iff, comesP, decide_eq_true_eq, beq_iff_eq]
  exact ⟨fun h => h.2, fun h2 => ⟨h, h2⟩⟩
theorem comesP_odd {t p n : Int} (h : n % 2 ≠ 0) : comesP t p n = false := by
  rw [Bool.eq_false_iff, comesP, Ne, decide_eq_true_eq]
  exact fun h2 => h h2.1
set_option maxHeartbeats 1000000 in
theorem comesFromOdd_any (t p n : Int) (w : World) (hg : goodB t p = true) (n1 : -100000000000000 ≤ n) (n2 : n ≤ 100000000000000) :
    Calls Try.prog 65 #[.agg #[.int .i64 t, .int .i64 p], .int .i64 n] w fun e w' => e = .returned (.bool (comesP t p n)) ∧ Below w.heap.size w w' := by
  obtain ⟨g1, g2, _, g4, g5, _⟩ := goodB_iff.1 hg
  have hb : Below w.heap.size w (w.alloc (.cells #[.int .i64 t, .int .i64 p] 25)) := (Below.refl _ w).alloc (Nat.le_refl _) _
  have HB := Lib.hid hb
  clear hb hg
  by_cases he : n % 2 = 0
  · have HO : Hid (∀ w, Calls Try.prog 64 #[.int .i64 n] w fun e w' => e = .returned (.bool false) ∧ w = w') := Lib.hid fun w => by
      have := isOdd_any n w
      rwa [show oddB n = false by simp [oddB, he]] at this
    have HC := Lib.hid (comesP_even (t := t) (p := p) he)
    clear he
    go_enter Try.func65, Try.ntmps65
    go_wp2_with (go_at_call 64; refine (HO.out _).mono ?_; rintro e w' ⟨rfl, rfl⟩)
    go_ret
    exact ⟨ret_bool HC.out.symm, HB.out⟩
  · have HO : Hid (∀ w, Calls Try.prog 64 #[.int .i64 n] w fun e w' => e = .returned (.bool true) ∧ w = w') := Lib.hid fun w => by
      have := isOdd_any n w
      rwa [show oddB n = true by simp [oddB, he]] at this
    have HC := Lib.hid (comesP_odd (t := t) (p := p) he)
    clear he
    go_enter Try.func65, Try.ntmps65
    go_wp2_with (go_at_call 64; refine (HO.out _).mono ?_; rintro e w' ⟨rfl, rfl⟩)
    go_ret
    exact ⟨ret_bool HC.out.symm, HB.out⟩
set_option maxHeartbeats 1000000 in
theorem oddTo_any (t p n : Int) (w : World) (hg : goodB t p = true) (n1 : -100000000000000 ≤ n) (n2 : n ≤ 100000000000000) :
    Calls Try.prog 34 #[.agg #[.int .i64 t, .int .i64 p], .int .i64 n] w fun e w' => e = .returned (.int .i64 (oddP t p n)) ∧ Below w.heap.size w w' := by
  obtain ⟨g1, g2, _, g4, g5, _⟩ := goodB_iff.1 hg
  have HC := Lib.hid (fun w => comesFromOdd_any t p n w hg n1 n2)
  have hb : Below w.heap.size w (w.alloc (.cells #[.int .i64 t, .int .i64 p] 25)) := (Below.refl _ w).alloc (Nat.le_refl _) _
  have HB := Lib.hid hb
  clear hb hg
  cases hc : comesP t p n
  · have HO : Hid (oddP t p n = 1000000000001) := Lib.hid (by rw [oddP, if_neg (by simp [hc])])
    rw [hc] at HC
    clear hc
    go_enter Try.func34, Try.ntmps34
    go_wp2_with fail
    refine (HC.out _).mono ?_
    rintro e w1 ⟨rfl, hb1⟩
    obtain ⟨c0, c1, hz, hb⟩ := map_block hb1
    clear hb1
    go_wp2_with fail
    go_ret
    exact ⟨ret_int HO.out.symm, hb⟩
  · have HO : Hid (oddP t p n = (n - p).tdiv t) := Lib.hid (by rw [oddP, if_pos hc])
    rw [hc] at HC
    clear hc
    go_enter Try.func34, Try.ntmps34
    go_wp2_with fail
    refine (HC.out _).mono ?_
    rintro e w1 ⟨rfl, hb1⟩
    obtain ⟨c0, c1, hz, hb⟩ := map_block hb1
    clear hb1
    go_wp2_with fail
    go_ret
    exact ⟨ret_int HO.out.symm, hb⟩
end Go.Proofs.Ytjcpdlamgjpmmaa
