/-
  WHAT A CLUE TELLS OF A NUMBER: 'pzValue' and 'pzFits' of the model.
-/
import Derived.Test.YtgobjobppajkbaaDoorPzM
import Derived.Test.YtgobjobppajkbaaDoorCl
namespace Go.Proofs.YtgobjobppajkbaaDoor
open Go.RowKit
set_option linter.unusedVariables false

theorem l1Abs_any2 (n : Int) (w : World) (n1 : -1000000000000 ≤ n) (n2 : n ≤ 1000000000000) :
    Calls Tryd.prog 119 #[.int .i64 n] w fun e w' => e = .returned (.int .i64 (absI n)) ∧ w = w' := by
  unfold absI
  by_cases h : -n < n
  · rw [if_pos h]
    go_enter Tryd.func119, Tryd.ntmps119
    go_wp2
    go_ret
    exact ⟨rfl, rfl⟩
  · rw [if_neg h]
    go_enter Tryd.func119, Tryd.ntmps119
    go_wp2
    go_ret
    exact ⟨rfl, rfl⟩

theorem absI_rng {n : Int} (h : numB n = true) : 0 ≤ absI n ∧ absI n ≤ 1000000000000 := by
  have := numB_iff.1 h
  unfold absI
  split <;> omega
theorem tmod10 {x : Int} (h : 0 ≤ x) : x.tmod 10 = x % 10 := Int.tmod_eq_emod_of_nonneg h
theorem aft_num {t p n k : Int} : numB (aft t p (nx t p) n k).1 = true := by
  unfold aft
  split
  · rename_i h
    exact allB_at (by omega) h.2
  · rfl
/-- What is asked of a clue's value: the clue's A, the number. -/
theorem vlP_zero (t p a n : Int) : vlP t p 0 a n = (n % a, true) := by simp [vlP]
theorem vlP_one (t p a n : Int) : vlP t p 1 a n = aft t p (nx t p) n a := by simp [vlP]
theorem vlP_two (t p a n : Int) : vlP t p 2 a n = (((odd t p n a : Nat) : Int), (aft t p (nx t p) n a).2) := by simp [vlP]
theorem vlP_three (t p a n : Int) : vlP t p 3 a n = ((pk true t p n a).1, (pk true t p n a).2.2) := by simp [vlP]
theorem vlP_four (t p a n : Int) : vlP t p 4 a n = (absI (aft t p (nx t p) n a).1 % 10, (aft t p (nx t p) n a).2) := by simp [vlP]
theorem vlP_no {t p k a n : Int} (hk : k ≠ 0) (h : (aft t p (nx t p) n a).2 = false) (hk0 : 0 ≤ k) (hk4 : k ≤ 4) : vlP t p k a n = (0, false) := by
  have ha : aft t p (nx t p) n a = (0, false) := by
    unfold aft at *
    by_cases hh : askB t p n a = true ∧ allB (nx t p) n (a.toNat + 1) = true
    · rw [if_pos hh] at h; cases h
    · rw [if_neg hh]
  have hp : pk true t p n a = (0, 0, false) := by unfold pk; rw [ha]; rfl
  have ho : odd t p n a = 0 := by unfold odd; rw [ha]; rfl
  have : k = 1 ∨ k = 2 ∨ k = 3 ∨ k = 4 := by omega
  rcases this with rfl | rfl | rfl | rfl
  · rw [vlP_one, ha]
  · rw [vlP_two, ha, ho]; rfl
  · rw [vlP_three, hp]
  · rw [vlP_four, ha]; rfl

theorem ret_two {x : Int × Bool} {a : Int} {b : Bool} (h : x = (a, b)) : Ending.returned (.tuple #[.int .i64 a, .bool b]) = .returned (.tuple #[.int .i64 x.1, .bool x.2]) := by rw [h]

end Go.Proofs.YtgobjobppajkbaaDoor
