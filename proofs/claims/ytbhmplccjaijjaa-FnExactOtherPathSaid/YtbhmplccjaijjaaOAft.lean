/-
  'OtherAfter', 'OtherNext' of the program.
-/
import Derived.Test.YtbhmplccjaijjaaAlgO
import Derived.Test.YtbhmplccjaijjaaIterO
namespace Go.Proofs.Ytbhmplccjaijjaa
open Go.RowKit
set_option linter.unusedVariables false

theorem PartsIn.row {w : World} {a : Option Addr} {c : Nat} {ps : List Pt} (h : PartsIn w (.slice a ps.length c) ps) : PRow w 0 w.heap.size a ps := by
  obtain ⟨a', c', e, h⟩ := h
  simp only [Value.slice.injEq] at e
  obtain ⟨rfl, _, _⟩ := e
  exact h
theorem iOtherAfter (ps : List Pt) (n k : Int) (v : Value) (w : World) (hl : ps.length ≤ 1048576) (h : OthIn w v ps) :
    Calls Try.prog 23 #[v, .int .i64 n, .int .i64 k] w fun e w' => e = .returned (.tuple #[.int .i64 (aftO ps (omN ps) n k).1, .bool (aftO ps (omN ps) n k).2]) ∧ Below w.heap.size w w' := by
  obtain ⟨u, rfl, a, c, rfl, hp⟩ := h
  have HC := Lib.hid (fun X => afterO_any ps (omN ps) n k 64 a c (w.alloc X) ((hp.of (fun g _ hg => (below_new w X).block g hg)).wide (Nat.le_refl _) (below_new w X).size) (fun bo bn bs => iter_next bo bn bs _ ps a c n hl))
  have HB := Lib.hid (fun X => below_new w X)
  clear hp hl
  generalize aftO ps (omN ps) n k = r at *
  generalize ps.length = K at *
  obtain ⟨r1, r2⟩ := r
  go_enter Try.func23, Try.ntmps23
  go_wp2_with fail
  refine (HC.out _).mono ?_
  rintro e w1 ⟨rfl, hb1⟩
  have HB1 := Lib.hid ((HB.out _).trans (hb1.mono (HB.out _).size))
  clear hb1
  go_wp2_with fail
  go_ret2
  exact ⟨rfl, HB1.out⟩
theorem iOtherNext (ps : List Pt) (n : Int) (v : Value) (w : World) (hl : ps.length ≤ 1048576) (h : OthIn w v ps) :
    Calls Try.prog 21 #[v, .int .i64 n] w fun e w' => e = .returned (.tuple #[.int .i64 (aftO ps (omN ps) n 1).1, .bool (aftO ps (omN ps) n 1).2]) ∧ Below w.heap.size w w' := by
  have HC := Lib.hid (fun X => iOtherAfter ps n 1 v (w.alloc X) hl (h.kept (below_new w X)))
  have HB := Lib.hid (fun X => below_new w X)
  obtain ⟨u, rfl, _⟩ := h
  clear hl
  generalize aftO ps (omN ps) n 1 = r at *
  obtain ⟨r1, r2⟩ := r
  go_enter Try.func21, Try.ntmps21
  go_wp2_with fail
  refine (HC.out _).mono ?_
  rintro e w1 ⟨rfl, hb1⟩
  have HB1 := Lib.hid ((HB.out _).trans (hb1.mono (HB.out _).size))
  clear hb1
  go_wp2_with fail
  go_ret2
  exact ⟨rfl, HB1.out⟩
end Go.Proofs.Ytbhmplccjaijjaa
