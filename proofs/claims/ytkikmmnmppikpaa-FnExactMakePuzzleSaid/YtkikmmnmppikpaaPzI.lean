/-
  'valueOf', 'isFitBy' of the program.
-/
import Derived.Test.YtkikmmnmppikpaaPzV
import Derived.Test.YtkikmmnmppikpaaNum
import Derived.Deep.RegionWith
namespace Go.Proofs.Ytkikmmnmppikpaa
open Go.RowKit
set_option linter.unusedVariables false

theorem ret_two' {x : Int × Bool} {a : Int} {b : Bool} (h : x = (a, b)) : Ending.returned (.tuple #[.int .i64 x.1, .bool x.2]) = .returned (.tuple #[.int .i64 a, .bool b]) := by rw [h]
theorem max_abs (x : Int) : max x (-x) = absI x := by unfold absI; split <;> omega

set_option maxRecDepth 100000 in
set_option maxHeartbeats 2000000 in
theorem valueOf_any (t p k a b n : Int) (w : World) (hn0 : 0 ≤ n) (hk0 : 0 ≤ k) (hk4 : k ≤ 4) (ha2 : k = 0 → 2 ≤ a) :
    Calls Try.prog 95 #[.agg #[.int .i64 k, .int .i64 a, .int .i64 b], .agg #[.int .i64 t, .int .i64 p], .int .i64 n] w fun e w' => e = .returned (.tuple #[.int .i64 (vlP t p k a n).1, .bool (vlP t p k a n).2]) ∧ Below w.heap.size w w' := by
  have hkk : k = 0 ∨ k = 1 ∨ k = 2 ∨ k = 3 ∨ k = 4 := by omega
  have HB := Lib.hid (fun X Y => (below_new w X).trans ((below_new (w.alloc X) Y).mono (by simp)))
  clear hk0 hk4
  rcases hkk with rfl | rfl | rfl | rfl | rfl
  · have h2 := ha2 rfl
    have hd : ¬ (a = 0) := by omega
    have HF := Lib.hid (vlP_zero t p a n)
    have ht : n.tmod a = n % a := Int.tmod_eq_emod_of_nonneg hn0
    have h3 : 0 ≤ n % a := Int.emod_nonneg _ hd
    have h4 : n % a < a := Int.emod_lt_of_pos _ (by omega)
    clear ha2
    go_enter Try.func95, Try.ntmps95
    go_wp2_with fail
    go_ret2
    exact ⟨ret_two HF.out, HB.out _ _⟩
  · have HC := Lib.hid (fun W => iNumberAfter t p n a W)
    rw [vlP_one]
    generalize aft t p (nx t p) n a = r at HC ⊢
    obtain ⟨x, y⟩ := r
    clear ha2
    go_enter Try.func95, Try.ntmps95
    go_wp2_with fail
    refine (HC.out _).mono ?_
    rintro e w1 ⟨rfl, hb1⟩
    have c0 := (hb1.cell (p := ⟨w.heap.size, 0, none⟩) (by simp; omega)).trans (show _ = some (Value.int .i64 1) by go_simp)
    have HB1 := Lib.hid ((HB.out _ _).trans (hb1.mono (HB.out _ _).size))
    clear hb1
    go_wp2_with fail
    go_ret2
    exact ⟨rfl, HB1.out⟩
  · have HC := Lib.hid (fun W => iOddSteps t p n a W)
    rw [vlP_two]
    generalize ((odd t p n a : Nat) : Int) = x at HC ⊢
    generalize (aft t p (nx t p) n a).2 = y at HC ⊢
    clear ha2
    go_enter Try.func95, Try.ntmps95
    go_wp2_with fail
    refine (HC.out _).mono ?_
    rintro e w1 ⟨rfl, hb1⟩
    have HB1 := Lib.hid ((HB.out _ _).trans (hb1.mono (HB.out _ _).size))
    clear hb1
    go_wp2_with fail
    go_ret2
    exact ⟨rfl, HB1.out⟩
  · have HC := Lib.hid (fun W => iPeakOf t p n a W)
    rw [vlP_three]
    generalize pk true t p n a = r at HC ⊢
    obtain ⟨x, y, z⟩ := r
    clear ha2
    go_enter Try.func95, Try.ntmps95
    go_wp2_with fail
    refine (HC.out _).mono ?_
    rintro e w1 ⟨rfl, hb1⟩
    have HB1 := Lib.hid ((HB.out _ _).trans (hb1.mono (HB.out _ _).size))
    clear hb1
    go_wp2_with fail
    go_ret2
    exact ⟨rfl, HB1.out⟩
  · have HC := Lib.hid (fun W => iNumberAfter t p n a W)
    have hnum := aft_num (t := t) (p := p) (n := n) (k := a)
    have H4 := Lib.hid (vlP_four t p a n)
    generalize aft t p (nx t p) n a = r at HC H4 hnum
    obtain ⟨x, y⟩ := r
    dsimp only at H4 hnum
    obtain ⟨v1, v2⟩ := numB_iff.1 hnum
    obtain ⟨ar0, ar1⟩ := absI_rng hnum
    have hmx := max_abs x
    have htm : (absI x).tmod 10 = absI x % 10 := tmod10 ar0
    have hm0 : 0 ≤ absI x % 10 := by omega
    have hm1 : absI x % 10 ≤ 9 := by omega
    clear ha2 hnum
    go_enter Try.func95, Try.ntmps95
    go_wp2_with fail
    refine (HC.out _).mono ?_
    rintro e w1 ⟨rfl, hb1⟩
    have c0 := (hb1.cell (p := ⟨w.heap.size, 0, none⟩) (by simp; omega)).trans (show _ = some (Value.int .i64 4) by go_simp)
    have HB1 := Lib.hid ((HB.out _ _).trans (hb1.mono (HB.out _ _).size))
    clear hb1
    go_wp2_with fail
    all_goals
      go_ret2
      refine ⟨ret_two ?_, HB1.out⟩
      rw [H4.out]
      unfold absI
      split <;> first | rfl | (exfalso; omega) | (obtain rfl : x = 0 := (by omega); rfl)

end Go.Proofs.Ytkikmmnmppikpaa
