/-
  'PeakOf' and 'LowOf' of both.
-/
import Derived.Test.YtmocbkpfoddffaaDoorFar
namespace Go.Proofs.YtmocbkpfoddffaaDoor
open Go.RowKit
set_option linter.unusedVariables false

theorem ret_three {x : Int × Int × Bool} {a b : Int} {c : Bool} (h : x = (a, b, c)) : Ending.returned (.tuple #[.int .i64 a, .int .i64 b, .bool c]) = .returned (.tuple #[.int .i64 x.1, .int .i64 x.2.1, .bool x.2.2]) := by rw [h]
/-- The numbers of a way, one after the other. -/
def way (t p n : Int) : Nat → Int := fun j => itr (nx t p) j n
/-- What PeakOf (s) and LowOf come to. -/
def pk (s : Bool) (t p n k : Int) : Int × Int × Bool := if (aft t p (nx t p) n k).2 = true then (best s (way t p n) k.toNat, (far s (way t p n) k.toNat : Int), true) else (0, 0, false)
theorem far_first (s : Bool) (a : Nat → Int) (k j : Nat) (h : j < far s a k) : a j ≠ best s a k := by
  have := (far_best s a k).2 j h
  intro e
  rw [best] at e
  rw [e] at this
  cases s <;> simp [bet] at this

set_option maxRecDepth 100000 in
set_option maxHeartbeats 1000000 in
theorem iLowOf (t p n k : Int) (w : World) :
    Calls Tryd.prog 28 #[.agg #[.int .i64 t, .int .i64 p], .int .i64 n, .int .i64 k] w fun e w' => e = .returned (.tuple #[.int .i64 (pk false t p n k).1, .int .i64 (pk false t p n k).2.1, .bool (pk false t p n k).2.2]) ∧ Below w.heap.size w w' := by
  by_cases ha : (aft t p (nx t p) n k).2 = true
  · obtain ⟨K, rfl, hK, hg, hn, hall, hask⟩ := aft_yes ha
    have hf : pk false t p n K = (best false (way t p n) K, (far false (way t p n) K : Int), true) := by rw [pk, if_pos ha]; rfl
    have HF := Lib.hid hf
    have HA := Lib.hid ha
    clear hg hn hask ha hall hf
    go_enter Tryd.func28, Tryd.ntmps28
    go_wp2_with fail
    refine (path_yes t p n K _ HA.out).mono ?_
    rintro e w2 ⟨g, cap, rfl, hrow, hb2⟩
    have hbb := ((Below.refl _ w).alloc (Nat.le_refl _) _).trans (hb2.mono (by simp))
    have HC : Hid (∀ j, j ≤ K → w2.cell? ⟨g, j, none⟩ = some (.int .i64 (way t p n j))) := Lib.hid (fun j hj => hrow.cell hj)
    clear hrow hb2
    go_wp2_with fail
    refine (min_any (way t p n) K g cap _ hK HC.out).mono ?_
    rintro e w3 ⟨rfl, rfl⟩
    go_wp2_with fail
    refine (index_any (way t p n) K g cap (far false (way t p n) K) _ _ hK (far_le _ _ _) rfl (fun j hj => far_first _ _ _ j hj) HC.out).mono ?_
    rintro e w3 ⟨rfl, rfl⟩
    go_wp2_with fail
    go_ret3
    exact ⟨ret_three HF.out, hbb⟩
  · have ha' : (aft t p (nx t p) n k).2 = false := by simpa using ha
    have hf : pk false t p n k = (0, 0, false) := by rw [pk, if_neg ha]
    have HF := Lib.hid hf
    have HA := Lib.hid ha'
    clear hf ha ha'
    go_enter Tryd.func28, Tryd.ntmps28
    go_wp2_with fail
    refine (path_no t p n k _ HA.out).mono ?_
    rintro e w2 ⟨rfl, hb2⟩
    have hbb := ((Below.refl _ w).alloc (Nat.le_refl _) _).trans (hb2.mono (by simp))
    clear hb2
    go_wp2_with fail
    go_ret3
    exact ⟨ret_three HF.out, hbb⟩

end Go.Proofs.YtmocbkpfoddffaaDoor
