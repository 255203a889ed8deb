/-
  WHAT CHAPTER 6 ASKS OF A POWER: 'rsPower' of the model.
-/
import Derived.Test.YtgobjobppajkbaaDoorLeaf
namespace Go.Proofs.YtgobjobppajkbaaDoor
open Go.RowKit
set_option linter.unusedVariables false

theorem ret_ib {x y : Int} {a b : Bool} (h : x = y) (h' : a = b) : Ending.returned (.tuple #[.int .i64 x, .bool a]) = .returned (.tuple #[.int .i64 y, .bool b]) := by rw [h, h']
theorem ret_iib {x y z u : Int} {a b : Bool} (h : x = y) (h2 : z = u) (h' : a = b) : Ending.returned (.tuple #[.int .i64 x, .int .i64 z, .bool a]) = .returned (.tuple #[.int .i64 y, .int .i64 u, .bool b]) := by rw [h, h2, h']
theorem rsPower_any (t p k m : Int) (w : World) :
    Calls Tryd.prog 33 #[.agg #[.int .i64 t, .int .i64 p], .int .i64 k, .int .i64 m] w fun e w' => e = .returned (.bool (goodB t p && inB k 0 m)) ∧ Below w.heap.size w w' := by
  have HM := Lib.hid (fun w => mpGood_any t p w)
  cases hg : goodB t p
  all_goals
    rw [hg] at HM
    clear hg
    go_enter Tryd.func33, Tryd.ntmps33
    go_wp2_with fail
    refine (HM.out _).mono ?_
    rintro e w1 ⟨rfl, hb1⟩
    obtain ⟨c0, c1, hz, hb⟩ := map_block hb1
    clear hb1
    go_wp2_with (go_at_call 72; refine (l1In_any _ _ _ _).mono ?_; rintro e w' ⟨rfl, rfl⟩)
    go_ret
    exact ⟨rfl, hb⟩
theorem inB_nat {k m : Int} (h : inB k 0 m = true) : ∃ K : Nat, k = K ∧ (K : Int) ≤ m := ⟨k.toNat, by simp [inB] at h; omega, by simp [inB] at h; omega⟩
end Go.Proofs.YtgobjobppajkbaaDoor
