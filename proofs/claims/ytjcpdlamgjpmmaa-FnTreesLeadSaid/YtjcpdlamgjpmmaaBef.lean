/-
  'before', 'shortBefore' of the program: the two numbers that may be before one.
-/
import Derived.Test.YtjcpdlamgjpmmaaTreeB
import Derived.Shelf.Abstract
namespace Go.Proofs.Ytjcpdlamgjpmmaa
open Go.RowKit
set_option linter.unusedVariables false

set_option maxHeartbeats 1000000 in
theorem before_any (t p n : Int) (w : World) (hg : goodB t p = true) (hn : numB n = true) :
    Calls Try.prog 52 #[.agg #[.int .i64 t, .int .i64 p], .int .i64 n] w fun e w' => e = .returned (.agg #[.int .i64 (2 * n), .int .i64 (oddP t p n)]) ∧ Below w.heap.size w w' := by
  obtain ⟨n1, n2⟩ := numB_iff.1 hn
  have HC := Lib.hid (fun w => oddTo_any t p n w hg (by omega) (by omega))
  obtain ⟨o1, o2⟩ := oddP_bound (n := n) hg ⟨by omega, by omega⟩
  generalize oddP t p n = y at HC o1 o2 ⊢
  clear hg hn
  go_enter Try.func52, Try.ntmps52
  go_wp2_with fail
  refine (HC.out _).mono ?_
  rintro e w1 ⟨rfl, hb1⟩
  obtain ⟨⟨c0, c1⟩, ⟨d0, d1, f0, f1⟩, hz, hb⟩ := two_maps hb1
  have HB := Lib.hid hb
  clear hb1 hb c0 c1
  go_wp2_with fail
  exact bodyPost_ret (v := .agg #[.int .i64 (2 * n), .int .i64 y]) (by simp [results, Try.results52, go_sem, d0, d1]) rfl ⟨rfl, (HB.out.setCell (by simp) _).setCell (by simp) _⟩

set_option maxHeartbeats 1000000 in
theorem shortBefore_any (t p n : Int) (w : World) (hg : goodB t p = true) (hn : numB n = true) :
    Calls Try.prog 39 #[.agg #[.int .i64 t, .int .i64 p], .int .i64 n] w fun e w' => e = .returned (.agg #[.int .i64 (2 * n), .int .i64 (oddP t p (2 * n))]) ∧ Below w.heap.size w w' := by
  obtain ⟨n1, n2⟩ := numB_iff.1 hn
  have HC := Lib.hid (fun w => oddTo_any t p (2 * n) w hg (by omega) (by omega))
  obtain ⟨o1, o2⟩ := oddP_bound (n := (2 * n)) hg ⟨by omega, by omega⟩
  generalize oddP t p (2 * n) = y at HC o1 o2 ⊢
  clear hg hn
  go_enter Try.func39, Try.ntmps39
  go_wp2_with fail
  refine (HC.out _).mono ?_
  rintro e w1 ⟨rfl, hb1⟩
  obtain ⟨⟨c0, c1⟩, ⟨d0, d1, f0, f1⟩, hz, hb⟩ := two_maps hb1
  have HB := Lib.hid hb
  clear hb1 hb c0 c1
  go_wp2_with fail
  exact bodyPost_ret (v := .agg #[.int .i64 (2 * n), .int .i64 y]) (by simp [results, Try.results39, go_sem, d0, d1]) rfl ⟨rfl, (HB.out.setCell (by simp) _).setCell (by simp) _⟩

/-- Either of both; where a seat has no short one: the plain one. -/
def bfF (short : Bool) : Nat := if short = true then 39 else 52
def bfOk (short : Bool) : Bool := true
theorem bf_any (short : Bool) (hok : bfOk short = true) (t p n : Int) (w : World) (hg : goodB t p = true) (hn : numB n = true) :
    Calls Try.prog (bfF short) #[.agg #[.int .i64 t, .int .i64 p], .int .i64 n] w fun e w' => e = .returned (.agg #[.int .i64 (2 * n), .int .i64 (oddP t p (arB short n))]) ∧ Below w.heap.size w w' := by
  cases short
  · exact before_any t p n w hg hn
  · exact shortBefore_any t p n w hg hn
set_option maxRecDepth 100000 in
theorem index_pair0 (a b : Int) (w : World) : (Instr.index 81 (.agg #[.int .i64 a, .int .i64 b]) (.int .i64 0)).run Try.prog w = .ok (.int .i64 a) w := by rfl
set_option maxRecDepth 100000 in
theorem index_pair1 (a b : Int) (w : World) : (Instr.index 81 (.agg #[.int .i64 a, .int .i64 b]) (.int .i64 1)).run Try.prog w = .ok (.int .i64 b) w := by rfl
theorem bf_enters (short : Bool) (args : Array Value) (w : World) : (callFunc (bfF short) args).run Try.prog w = .ok (.enter (bfF short) args) w := by
  cases short
  · exact enters_of Try.func52 (by kernel_rfl) rfl args w
  · exact enters_of Try.func39 (by kernel_rfl) rfl args w
end Go.Proofs.Ytjcpdlamgjpmmaa
