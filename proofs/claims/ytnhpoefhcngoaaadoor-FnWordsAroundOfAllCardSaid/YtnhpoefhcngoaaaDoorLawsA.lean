/-
  THE WALKS OF THE LAWS 'IsMap', 'NegativeMap', 'OddPart'.
-/
import Derived.Test.YtnhpoefhcngoaaaDoorOdd
namespace Go.Proofs.YtnhpoefhcngoaaaDoor
open Go.RowKit
set_option linter.unusedVariables false

/-- The map with Plus of the other sign, if there is a map. -/
def neg (t p : Int) : Int × Int × Bool := if goodB t p = true then (t, -p, true) else (0, 0, false)
theorem iNegativeMap (t p : Int) (w : World) :
    Calls Tryd.prog 12 #[.agg #[.int .i64 t, .int .i64 p]] w fun e w' =>
      e = .returned (.tuple #[.agg #[.int .i64 (neg t p).1, .int .i64 (neg t p).2.1], .bool (neg t p).2.2]) ∧ Below w.heap.size w w' := by
  by_cases hg : goodB t p = true
  · have hp := goodB_iff.1 hg
    have hn : neg t p = (t, -p, true) := by rw [neg, if_pos hg]
    have p1 : -9 ≤ p := hp.2.2.2.1
    have p2 : p ≤ 9 := hp.2.2.2.2.1
    rw [hn]
    clear hp hn
    go_enter Tryd.func12, Tryd.ntmps12
    go_wp2_with fail
    refine (isMap_any t p _).mono ?_
    rintro e w1 ⟨rfl, hb1⟩
    obtain ⟨⟨c0, c1⟩, ⟨d0, d1, f0, f1⟩, hz, hb⟩ := two_maps hb1
    clear hb1
    go_wp2_with fail
    exact bodyPost_ret (v := .tuple #[.agg #[.int .i64 t, .int .i64 (-p)], .bool true]) (by simp [results, Tryd.f12, go_sem, d0, d1]) rfl ⟨rfl, (hb.setCell (by simp) _).setCell (by simp) _⟩
  · have hg' : goodB t p = false := by simpa using hg
    have hn : neg t p = (0, 0, false) := by rw [neg, if_neg hg]
    rw [hn]
    clear hn
    go_enter Tryd.func12, Tryd.ntmps12
    go_wp2_with fail
    refine (isMap_any t p _).mono ?_
    rintro e w1 ⟨rfl, hb1⟩
    obtain ⟨⟨c0, c1⟩, ⟨d0, d1, f0, f1⟩, hz, hb⟩ := two_maps hb1
    clear hb1
    go_wp2_with fail
    exact bodyPost_ret (v := .tuple #[.agg #[.int .i64 0, .int .i64 0], .bool false]) (by simp [results, Tryd.f12, go_sem, d0, d1]) rfl ⟨rfl, (hb.setCell (by simp) _).setCell (by simp) _⟩

end Go.Proofs.YtnhpoefhcngoaaaDoor
