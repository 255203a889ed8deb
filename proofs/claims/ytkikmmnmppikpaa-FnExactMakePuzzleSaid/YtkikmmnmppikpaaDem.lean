/-
  'spans', 'has', 'demand', 'hasNone', 'IsClue' of the program: a clue that is none is raised, and comes to a recovered door.
-/
import Derived.Test.YtkikmmnmppikpaaPzS
import Derived.Defers
import Derived.Recover
import Derived.Laws.Pointers
import Derived.WalkLawsBesides
import Derived.Deep.RegionHeld3
namespace Go.Proofs.Ytkikmmnmppikpaa
open Go.RowKit
set_option linter.unusedVariables false

/-- What 'spans' hands back tells the bounds of A, and, if A is within, of B. -/
def RetSp (k a b : Int) (w : World) (e : Ending) (w' : World) : Prop :=
  ∃ l1 g1 l2 g2 : Int, e = .returned (.tuple #[.agg #[.int .i64 l1, .int .i64 g1], .agg #[.int .i64 l2, .int .i64 g2]]) ∧ (inB a l1 g1 = aIn k a) ∧ (aIn k a = true → inB b l2 g2 = bIn k a b) ∧ Below w.heap.size w w'

set_option maxHeartbeats 2000000 in
theorem spans_one (a b : Int) (w : World) :
    Calls Try.prog 94 #[.agg #[.int .i64 1, .int .i64 a, .int .i64 b]] w (RetSp 1 a b w) := by
  have HB := Lib.hid (Below.refl w.heap.size w)
  have H1 : Hid (inB a 0 20 = aIn 1 a) := Lib.hid (by simp [aIn])
  have H2 : Hid (aIn 1 a = true → inB b (-1000000000000) 1000000000000 = bIn 1 a b) := Lib.hid (fun _ => by first | (simp [bIn]; done) | (simp [bIn, inB, numB]; done))
  go_enter Try.func94, Try.ntmps94
  go_wp2
  exact bodyPost_ret (v := .tuple #[.agg #[.int .i64 0, .int .i64 20], .agg #[.int .i64 (-1000000000000), .int .i64 1000000000000]]) (by simp [results, Try.results94, go_sem]) rfl ⟨_, _, _, _, rfl, H1.out, H2.out, by first | exact (((HB.out.alloc (Nat.le_refl _) _).alloc (by simp) _).alloc (by simp; omega) _).alloc (by simp; omega) _ | exact ((((HB.out.alloc (Nat.le_refl _) _).alloc (by simp) _).alloc (by simp; omega) _).alloc (by simp; omega) _).drew⟩

set_option maxHeartbeats 2000000 in
theorem spans_three (a b : Int) (w : World) :
    Calls Try.prog 94 #[.agg #[.int .i64 3, .int .i64 a, .int .i64 b]] w (RetSp 3 a b w) := by
  have HB := Lib.hid (Below.refl w.heap.size w)
  have H1 : Hid (inB a 0 20 = aIn 3 a) := Lib.hid (by simp [aIn])
  have H2 : Hid (aIn 3 a = true → inB b (-1000000000000) 1000000000000 = bIn 3 a b) := Lib.hid (fun _ => by first | (simp [bIn]; done) | (simp [bIn, inB, numB]; done))
  go_enter Try.func94, Try.ntmps94
  go_wp2
  exact bodyPost_ret (v := .tuple #[.agg #[.int .i64 0, .int .i64 20], .agg #[.int .i64 (-1000000000000), .int .i64 1000000000000]]) (by simp [results, Try.results94, go_sem]) rfl ⟨_, _, _, _, rfl, H1.out, H2.out, by first | exact (((HB.out.alloc (Nat.le_refl _) _).alloc (by simp) _).alloc (by simp; omega) _).alloc (by simp; omega) _ | exact ((((HB.out.alloc (Nat.le_refl _) _).alloc (by simp) _).alloc (by simp; omega) _).alloc (by simp; omega) _).drew⟩

set_option maxHeartbeats 2000000 in
theorem spans_four (a b : Int) (w : World) :
    Calls Try.prog 94 #[.agg #[.int .i64 4, .int .i64 a, .int .i64 b]] w (RetSp 4 a b w) := by
  have HB := Lib.hid (Below.refl w.heap.size w)
  have H1 : Hid (inB a 0 20 = aIn 4 a) := Lib.hid (by simp [aIn])
  have H2 : Hid (aIn 4 a = true → inB b 0 9 = bIn 4 a b) := Lib.hid (fun _ => by first | (simp [bIn]; done) | (simp [bIn, inB, numB]; done))
  go_enter Try.func94, Try.ntmps94
  go_wp2
  exact bodyPost_ret (v := .tuple #[.agg #[.int .i64 0, .int .i64 20], .agg #[.int .i64 0, .int .i64 9]]) (by simp [results, Try.results94, go_sem]) rfl ⟨_, _, _, _, rfl, H1.out, H2.out, by first | exact (((HB.out.alloc (Nat.le_refl _) _).alloc (by simp) _).alloc (by simp; omega) _).alloc (by simp; omega) _ | exact ((((HB.out.alloc (Nat.le_refl _) _).alloc (by simp) _).alloc (by simp; omega) _).alloc (by simp; omega) _).drew⟩

set_option maxHeartbeats 2000000 in
theorem spans_two (a b : Int) (w : World) :
    Calls Try.prog 94 #[.agg #[.int .i64 2, .int .i64 a, .int .i64 b]] w (RetSp 2 a b w) := by
  have HB := Lib.hid (Below.refl w.heap.size w)
  have H1 : Hid (inB a 0 20 = aIn 2 a) := Lib.hid (by simp [aIn])
  have H2 : Hid (aIn 2 a = true → inB b 0 20 = bIn 2 a b) := Lib.hid (fun _ => by first | (simp [bIn]; done) | (simp [bIn, inB, numB]; done))
  go_enter Try.func94, Try.ntmps94
  go_wp2
  go_region
  all_goals go_wp2
  all_goals exact bodyPost_ret (v := .tuple #[.agg #[.int .i64 0, .int .i64 20], .agg #[.int .i64 0, .int .i64 20]]) (by simp [results, Try.results94, go_sem]) rfl ⟨_, _, _, _, rfl, H1.out, H2.out, by first | exact (((HB.out.alloc (Nat.le_refl _) _).alloc (by simp) _).alloc (by simp; omega) _).alloc (by simp; omega) _ | exact ((((HB.out.alloc (Nat.le_refl _) _).alloc (by simp) _).alloc (by simp; omega) _).alloc (by simp; omega) _).drew⟩

set_option maxHeartbeats 2000000 in
theorem spans_zero (a b : Int) (w : World) :
    Calls Try.prog 94 #[.agg #[.int .i64 0, .int .i64 a, .int .i64 b]] w (RetSp 0 a b w) := by
  have HB := Lib.hid (Below.refl w.heap.size w)
  have H1 : Hid (inB a 2 12 = aIn 0 a) := Lib.hid (by simp [aIn])
  have H2 : Hid (aIn 0 a = true → inB b 0 (a - 1) = bIn 0 a b) := Lib.hid (fun _ => by simp [bIn])
  by_cases ha : 2 ≤ a ∧ a ≤ 12
  · obtain ⟨a1, a2⟩ := ha
    go_enter Try.func94, Try.ntmps94
    go_wp2
    go_region
    all_goals go_wp2
    all_goals exact bodyPost_ret (v := .tuple #[.agg #[.int .i64 2, .int .i64 12], .agg #[.int .i64 0, .int .i64 (a - 1)]]) (by simp [results, Try.results94, go_sem]) rfl ⟨_, _, _, _, rfl, H1.out, H2.out, by first | exact (((HB.out.alloc (Nat.le_refl _) _).alloc (by simp) _).alloc (by simp; omega) _).alloc (by simp; omega) _ | exact ((((HB.out.alloc (Nat.le_refl _) _).alloc (by simp) _).alloc (by simp; omega) _).alloc (by simp; omega) _).drew⟩
  · have H3 : Hid (aIn 0 a = false) := Lib.hid (by simp [aIn, inB]; omega)
    obtain ⟨x, hx⟩ : ∃ x, x = IntKind.i64.wrap (a - 1) := ⟨_, rfl⟩
    replace hx := hx.symm
    clear ha
    go_enter Try.func94, Try.ntmps94
    go_wp2
    go_region
    all_goals go_wp2
    all_goals exact bodyPost_ret (v := .tuple #[.agg #[.int .i64 2, .int .i64 12], .agg #[.int .i64 0, .int .i64 x]]) (by simp [results, Try.results94, go_sem]) rfl ⟨_, _, _, _, rfl, H1.out, (fun h => by rw [H3.out] at h; cases h), by first | exact (((HB.out.alloc (Nat.le_refl _) _).alloc (by simp) _).alloc (by simp; omega) _).alloc (by simp; omega) _ | exact ((((HB.out.alloc (Nat.le_refl _) _).alloc (by simp) _).alloc (by simp; omega) _).alloc (by simp; omega) _).drew⟩

set_option maxHeartbeats 2000000 in
theorem spans_none (k a b : Int) (w : World) (h0 : k ≠ 0) (h1 : k ≠ 1) (h2 : k ≠ 2) (h3 : k ≠ 3) (h4 : k ≠ 4) :
    Calls Try.prog 94 #[.agg #[.int .i64 k, .int .i64 a, .int .i64 b]] w fun e w' => e = .panicked [{ v := .iface 96 (.agg #[.int .i64 k, .int .i64 a, .int .i64 b]), recovered := false }] ∧ Below w.heap.size w w' := by
  have e0 : (k == 0) = false := by simpa using h0
  have e1 : (k == 1) = false := by simpa using h1
  have e2 : (k == 2) = false := by simpa using h2
  have e3 : (k == 3) = false := by simpa using h3
  have e4 : (k == 4) = false := by simpa using h4
  have HB := Lib.hid (Below.refl w.heap.size w)
  go_enter Try.func94, Try.ntmps94
  go_wp2
  exact ⟨rfl, rfl, (((HB.out.alloc (Nat.le_refl _) _).alloc (by simp) _).alloc (by simp; omega) _).alloc (by simp; omega) _⟩
theorem spans_any (k a b : Int) (w : World) (h0 : 0 ≤ k) (h4 : k ≤ 4) : Calls Try.prog 94 #[.agg #[.int .i64 k, .int .i64 a, .int .i64 b]] w (RetSp k a b w) := by
  have : k = 0 ∨ k = 1 ∨ k = 2 ∨ k = 3 ∨ k = 4 := by omega
  rcases this with rfl | rfl | rfl | rfl | rfl
  · exact spans_zero a b w
  · exact spans_one a b w
  · exact spans_two a b w
  · exact spans_three a b w
  · exact spans_four a b w

/-- A clue that is none is raised. -/
def raised (k a b : Int) : Ending := .panicked [{ v := .iface 96 (.agg #[.int .i64 k, .int .i64 a, .int .i64 b]), recovered := false }]
def RetDm (k a b : Int) (w : World) (e : Ending) (w' : World) : Prop := e = (if clB (k, a, b) = true then .returned (.tuple #[]) else raised k a b) ∧ Below w.heap.size w w'
theorem clB_two (k a b : Int) : clB (k, a, b) = (aIn k a && bIn k a b) := rfl

end Go.Proofs.Ytkikmmnmppikpaa
