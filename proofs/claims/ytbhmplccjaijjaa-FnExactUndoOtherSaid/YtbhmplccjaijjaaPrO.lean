/-
  'previous' of the program.
-/
import Derived.Test.YtbhmplccjaijjaaOmJ
import Derived.Test.YtbhmplccjaijjaaBfO
import Derived.Deep.AppendLies
namespace Go.Proofs.Ytbhmplccjaijjaa
open Go.RowKit
set_option linter.unusedVariables false

set_option maxHeartbeats 2000000 in
theorem previous_any (ps : List Pt) (n : Int) (v : Value) (w : World) (hg : omB ps = true) (h1 : oneB ps = true) (hn : numB n = true) (h : OthIn w v ps) :
    Calls Try.prog 76 #[v, .int .i64 n] w fun e w' => e = .returned (.int .i64 (prv ps n)) ∧ Below w.heap.size w w' := by
  obtain ⟨u, rfl, hp⟩ := h
  have HC := Lib.hid (fun X => beforeO_any ps n (.agg #[u]) (w.alloc X) hg hn (OthIn.kept ⟨u, rfl, hp⟩ (below_new w X)))
  rw [prv_list hg h1 n] at HC
  have HB := Lib.hid (fun X => below_new w X)
  generalize prv ps n = x at *
  clear hp
  go_enter Try.func76, Try.ntmps76
  go_wp2_with fail
  refine (HC.out _).mono ?_
  rintro e w1 ⟨v1, rfl, hi, hb1⟩
  have HB1 := Lib.hid ((HB.out _).trans (hb1.mono (HB.out _).size))
  obtain ⟨g, cap, rfl, _, _⟩ := World.ownsRow.form hi (by simp)
  have q : w1.cell? ⟨g, 0, none⟩ = some (.int .i64 x) := by rw [World.ownsRow.cellAt hi 0 (by simp)]; rfl
  clear hi hb1
  go_wp2_with fail
  go_ret
  exact ⟨rfl, HB1.out⟩
end Go.Proofs.Ytbhmplccjaijjaa
