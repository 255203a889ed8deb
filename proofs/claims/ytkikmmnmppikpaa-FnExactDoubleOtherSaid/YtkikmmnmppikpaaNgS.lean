/-
  'NegativeOther' of the model.
-/
import Derived.Test.YtkikmmnmppikpaaNgM
import Derived.Deep.RegionLaw
import Derived.Deep.RegionHeld3
import Derived.Deep.AppendLies
namespace Go.Proofs.Ytkikmmnmppikpaa
open Go.RowKit
set_option linter.unusedVariables false

theorem PtsAt.set {w : World} {B b : Nat} {v : Value} {qs : List Pt} (h : PtsAt w B v qs) (hb : b < B) (u : Value) : PtsAt (w.setCell ⟨b, 0, none⟩ u) B v qs := by
  refine ⟨h.1, ?_⟩
  rcases h.2 with hn | ⟨g, cap, cur, hv, hB, hg, r⟩
  · exact .inl hn
  · exact .inr ⟨g, cap, cur, hv, hB, (Below.heap_setCell _ _ _ _ (by simp; omega)).trans hg, r⟩
theorem Bo.set {w : World} {b c : Nat} {x : Value} (h : Bo w b x) (hb : b ≠ c) (u : Value) : Bo (w.setCell ⟨c, 0, none⟩ u) b x :=
  h.of (by simp) (Below.heap_setCell _ _ _ _ (by simpa using hb))

end Go.Proofs.Ytkikmmnmppikpaa
