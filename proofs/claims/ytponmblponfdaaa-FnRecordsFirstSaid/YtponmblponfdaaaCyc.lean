/-
  'CycleOf', 'LeadOf', 'IsOnCycle' of both.
-/
import Derived.Test.YtponmblponfdaaaInto
import Derived.Test.YtponmblponfdaaaPartA
namespace Go.Proofs.Ytponmblponfdaaa
open Go.RowKit
set_option linter.unusedVariables false

theorem far_congr {s : Bool} {a b : Nat → Int} {k : Nat} (h : ∀ j, j ≤ k → a j = b j) : far s a k = far s b k := by
  induction k with
  | zero => rfl
  | succ k ih =>
    have e := ih (fun j hj => h j (by omega))
    rw [far, far, e, h (k + 1) (Nat.le_refl _), h (far s b k) (by have := far_le s b k; omega)]
theorem way_drop (f : Int → Int) (n : Int) (K i : Nat) : (wayL f n K).drop i = cycL f n K i := by
  refine List.ext_getElem (by simp [wayL, cycL]) (fun m h1 h2 => by simp [wayL, cycL])
theorem cycL_at {f : Int → Int} {n : Int} {K i j : Nat} (h : j < K - i) : (cycL f n K i).getD j 0 = itr f (i + j) n := by
  simp [cycL, List.getD_eq_getElem?_getD, h]
theorem cyA_num {t p n : Int} (h : numB n = false) : cyA t p n = none := by
  unfold cyA
  split
  · exact fndF_out h
  · rfl
theorem cyA_bad {t p n : Int} (h : goodB t p = false) : cyA t p n = none := by rw [cyA, if_neg (by simp [h])]
theorem cyA_good {t p n : Int} (h : goodB t p = true) : cyA t p n = fnd (nx t p) n := by rw [cyA, if_pos h]

theorem intoCycle_any (t p n : Int) (w : World) :
    Calls Try.prog 66 #[.agg #[.int .i64 t, .int .i64 p], .int .i64 n] w (RetInto t p n w) := by
  cases h : cyA t p n with
  | some x => obtain ⟨K, i⟩ := x; exact intoCycle_yes t p n K i w h
  | none =>
    have HH := Lib.hid h
    have HS : Hid (∀ w, Calls Try.prog 78 #[.agg #[.int .i64 t, .int .i64 p], .int .i64 n] w fun e w' => e = .returned (.tuple #[.map none, .int .i64 0, .bool false]) ∧ Below w.heap.size w w') := Lib.hid (fun w => by
      cases hg : goodB t p
      · exact stepsOf_bad t p n w hg
      · rw [cyA_good hg] at h
        refine (stepsOf_any t p n w hg).mono ?_
        rintro e w1 (⟨K', i', b, ho, _⟩ | ⟨_, rfl, hb⟩)
        · rw [h] at ho; cases ho
        · exact ⟨rfl, hb⟩)
    clear h
    go_enter Try.func66, Try.ntmps66
    go_wp2_with fail
    refine (HS.out _).mono ?_
    rintro e w1 ⟨rfl, hb1⟩
    have HB := Lib.hid (((Below.refl _ w).alloc (Nat.le_refl _) _).trans (hb1.mono (by simp)))
    clear hb1
    go_wp2_with fail
    go_ret3
    exact retInto_no HH.out HB.out

set_option maxHeartbeats 1000000 in
theorem iCycleOf (t p n : Int) (w : World) :
    Calls Try.prog 48 #[.agg #[.int .i64 t, .int .i64 p], .int .i64 n] w (RetInts (cyL t p n) (cyA t p n).isSome w) := by
  have HS := Lib.hid (fun w => intoCycle_any t p n w)
  go_enter Try.func48, Try.ntmps48
  go_wp2_with fail
  refine (HS.out _).mono ?_
  rintro e w1 ⟨v, rfl, hrow, hb1⟩
  have HB := Lib.hid (((Below.refl _ w).alloc (Nat.le_refl _) _).trans (hb1.mono (by simp)))
  have HR : Hid (IntsAt w1 w.heap.size v (cyL t p n)) := Lib.hid (ownsRow_base hrow (by simp))
  clear hb1 hrow
  go_wp2_with fail
  go_ret2
  exact ⟨v, rfl, HR.out, HB.out⟩

theorem ldA_len (t p n : Int) : (ldA t p n).2 = ((cyL t p n).length : Int) := by
  unfold ldA cyL
  cases cyA t p n with
  | none => rfl
  | some x => obtain ⟨K, i⟩ := x; dsimp only; rw [cycT_length]
theorem ret_li {x : Int × Int} {f : Bool} {a b : Int} {g : Bool} (h : x = (a, b)) (h' : f = g) : Ending.returned (.tuple #[.int .i64 a, .int .i64 b, .bool g]) = .returned (.tuple #[.int .i64 x.1, .int .i64 x.2, .bool f]) := by rw [h, h']
set_option maxHeartbeats 1000000 in
theorem iLeadOf (t p n : Int) (w : World) :
    Calls Try.prog 74 #[.agg #[.int .i64 t, .int .i64 p], .int .i64 n] w fun e w' => e = .returned (.tuple #[.int .i64 (ldA t p n).1, .int .i64 (ldA t p n).2, .bool (cyA t p n).isSome]) ∧ Below w.heap.size w w' := by
  have HS := Lib.hid (fun w => intoCycle_any t p n w)
  have HL := Lib.hid (ldA_len t p n)
  go_enter Try.func74, Try.ntmps74
  go_wp2_with fail
  refine (HS.out _).mono ?_
  rintro e w1 ⟨v, rfl, hrow, hb1⟩
  have HB := Lib.hid (((Below.refl _ w).alloc (Nat.le_refl _) _).trans (hb1.mono (by simp)))
  obtain ⟨a, cap, rfl⟩ := hrow.form
  clear hb1 hrow
  go_wp2_with fail
  go_ret3
  exact ⟨by rw [HL.out]; rfl, HB.out⟩

/-- What IsOnCycle comes to. -/
def onB (t p n : Int) : Bool := (cyA t p n).isSome && ((ldA t p n).1 == 0)
/-- Are there a map and a number? -/
def askN (t p n : Int) : Bool := goodB t p && numB n
theorem ret_bb {x y a b : Bool} (h : x = y) (h' : a = b) : Ending.returned (.tuple #[.bool x, .bool a]) = .returned (.tuple #[.bool y, .bool b]) := by rw [h, h']
end Go.Proofs.Ytponmblponfdaaa
