/-
  THE LEAVES OF 'MakePuzzle' OF THE PROGRAM: 'numbersFrom', its closure, the span of A.
-/
import Derived.Test.YtkikmmnmppikpaaMkM
import Derived.Test.YtkikmmnmppikpaaDem
namespace Go.Proofs.Ytkikmmnmppikpaa
open Go.RowKit
set_option linter.unusedVariables false

theorem numbersFrom_any (s : Int) (w : World) :
    Calls Try.prog 68 #[.int .i64 s] w fun e w' => e = .returned (.func (.func 93) #[] #[.pointer (some ⟨w.heap.size, 0, none⟩)]) ∧ w.alloc (.cells #[.int .i64 s] 3) = w' := by
  go_enter Try.func68, Try.ntmps68
  go_wp2
  go_ret
  exact ⟨rfl, rfl⟩

set_option maxHeartbeats 1000000 in
/-- The closure: the next number, which it keeps. -/
theorem nextNumber_any (z : Int) (b : Nat) (w : World) (h0 : 0 ≤ z) (h1 : z ≤ 10006) (hc : w.cell? ⟨b, 0, none⟩ = some (.int .i64 z)) (hf : w.frozen? ⟨b, 0, none⟩ = false) :
    Calls Try.prog 93 #[.pointer (some ⟨b, 0, none⟩)] w fun e w' => e = .returned (.int .i64 (zN z)) ∧ w.setCell ⟨b, 0, none⟩ (.int .i64 (zN z)) = w' := by
  have ht : (z * 127 + 2843).tmod 10007 = zN z := by rw [Int.tmod_eq_emod_of_nonneg (by omega), Int.mul_comm z 127]; rfl
  have hz := zN_in z
  have e1 : IntKind.i64.wrap (z * 127) = z * 127 := IntWalk.i64_in _ (by omega)
  have e2 : IntKind.i64.wrap (z * 127 + 2843) = z * 127 + 2843 := IntWalk.i64_in _ (by omega)
  go_enter Try.func93, Try.ntmps93
  go_wp2_with fail
  go_ret
  first | exact ⟨rfl, rfl⟩ | exact ⟨by rw [ht], by rw [ht]⟩ | exact ⟨by simp [ht], by simp [ht]⟩

/-- The span of A. -/
def RetSpA (k : Int) (w : World) (e : Ending) (w' : World) : Prop :=
  ∃ l2 g2 : Int, e = .returned (.tuple #[.agg #[.int .i64 (if k = 0 then 2 else 0), .int .i64 (if k = 0 then 12 else 20)], .agg #[.int .i64 l2, .int .i64 g2]]) ∧ Below w.heap.size w w'

set_option maxHeartbeats 2000000 in
theorem spanA_one (a b : Int) (w : World) :
    Calls Try.prog 94 #[.agg #[.int .i64 1, .int .i64 a, .int .i64 b]] w (RetSpA 1 w) := by
  have HB := Lib.hid (Below.refl w.heap.size w)
  go_enter Try.func94, Try.ntmps94
  go_wp2
  exact bodyPost_ret (v := .tuple #[.agg #[.int .i64 0, .int .i64 20], .agg #[.int .i64 (-1000000000000), .int .i64 1000000000000]]) (by simp [results, Try.results94, go_sem]) rfl ⟨_, _, rfl, by first | exact (((HB.out.alloc (Nat.le_refl _) _).alloc (by simp) _).alloc (by simp; omega) _).alloc (by simp; omega) _ | exact ((((HB.out.alloc (Nat.le_refl _) _).alloc (by simp) _).alloc (by simp; omega) _).alloc (by simp; omega) _).drew⟩

set_option maxHeartbeats 2000000 in
theorem spanA_three (a b : Int) (w : World) :
    Calls Try.prog 94 #[.agg #[.int .i64 3, .int .i64 a, .int .i64 b]] w (RetSpA 3 w) := by
  have HB := Lib.hid (Below.refl w.heap.size w)
  go_enter Try.func94, Try.ntmps94
  go_wp2
  exact bodyPost_ret (v := .tuple #[.agg #[.int .i64 0, .int .i64 20], .agg #[.int .i64 (-1000000000000), .int .i64 1000000000000]]) (by simp [results, Try.results94, go_sem]) rfl ⟨_, _, rfl, by first | exact (((HB.out.alloc (Nat.le_refl _) _).alloc (by simp) _).alloc (by simp; omega) _).alloc (by simp; omega) _ | exact ((((HB.out.alloc (Nat.le_refl _) _).alloc (by simp) _).alloc (by simp; omega) _).alloc (by simp; omega) _).drew⟩

set_option maxHeartbeats 2000000 in
theorem spanA_four (a b : Int) (w : World) :
    Calls Try.prog 94 #[.agg #[.int .i64 4, .int .i64 a, .int .i64 b]] w (RetSpA 4 w) := by
  have HB := Lib.hid (Below.refl w.heap.size w)
  go_enter Try.func94, Try.ntmps94
  go_wp2
  exact bodyPost_ret (v := .tuple #[.agg #[.int .i64 0, .int .i64 20], .agg #[.int .i64 0, .int .i64 9]]) (by simp [results, Try.results94, go_sem]) rfl ⟨_, _, rfl, by first | exact (((HB.out.alloc (Nat.le_refl _) _).alloc (by simp) _).alloc (by simp; omega) _).alloc (by simp; omega) _ | exact ((((HB.out.alloc (Nat.le_refl _) _).alloc (by simp) _).alloc (by simp; omega) _).alloc (by simp; omega) _).drew⟩

set_option maxHeartbeats 2000000 in
theorem spanA_two (a b : Int) (w : World) :
    Calls Try.prog 94 #[.agg #[.int .i64 2, .int .i64 a, .int .i64 b]] w (RetSpA 2 w) := by
  have HB := Lib.hid (Below.refl w.heap.size w)
  go_enter Try.func94, Try.ntmps94
  go_wp2
  go_region
  all_goals go_wp2
  all_goals exact bodyPost_ret (v := .tuple #[.agg #[.int .i64 0, .int .i64 20], .agg #[.int .i64 0, .int .i64 20]]) (by simp [results, Try.results94, go_sem]) rfl ⟨_, _, rfl, by first | exact (((HB.out.alloc (Nat.le_refl _) _).alloc (by simp) _).alloc (by simp; omega) _).alloc (by simp; omega) _ | exact ((((HB.out.alloc (Nat.le_refl _) _).alloc (by simp) _).alloc (by simp; omega) _).alloc (by simp; omega) _).drew⟩

set_option maxHeartbeats 2000000 in
theorem spanA_zero (a b : Int) (w : World) :
    Calls Try.prog 94 #[.agg #[.int .i64 0, .int .i64 a, .int .i64 b]] w (RetSpA 0 w) := by
  have HB := Lib.hid (Below.refl w.heap.size w)
  obtain ⟨x, hx⟩ : ∃ x, x = IntKind.i64.wrap (a - 1) := ⟨_, rfl⟩
  replace hx := hx.symm
  go_enter Try.func94, Try.ntmps94
  go_wp2
  go_region
  all_goals go_wp2
  all_goals exact bodyPost_ret (v := .tuple #[.agg #[.int .i64 2, .int .i64 12], .agg #[.int .i64 0, .int .i64 x]]) (by simp [results, Try.results94, go_sem]) rfl ⟨_, _, rfl, by first | exact (((HB.out.alloc (Nat.le_refl _) _).alloc (by simp) _).alloc (by simp; omega) _).alloc (by simp; omega) _ | exact ((((HB.out.alloc (Nat.le_refl _) _).alloc (by simp) _).alloc (by simp; omega) _).alloc (by simp; omega) _).drew⟩

theorem spanA_any (k a b : Int) (w : World) (h0 : 0 ≤ k) (h4 : k ≤ 4) : Calls Try.prog 94 #[.agg #[.int .i64 k, .int .i64 a, .int .i64 b]] w (RetSpA k w) := by
  have : k = 0 ∨ k = 1 ∨ k = 2 ∨ k = 3 ∨ k = 4 := by omega
  rcases this with rfl | rfl | rfl | rfl | rfl
  · exact spanA_zero a b w
  · exact spanA_one a b w
  · exact spanA_two a b w
  · exact spanA_three a b w
  · exact spanA_four a b w
end Go.Proofs.Ytkikmmnmppikpaa
