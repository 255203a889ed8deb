/-
  'pzGood', 'IsPuzzle', 'pzFits', 'pzAll' of the model.
-/
import Derived.Test.YtkikmmnmppikpaaPzS
import Derived.Test.YtkikmmnmppikpaaPzV
import Derived.Test.YtkikmmnmppikpaaSv
import Derived.Deep.RegionWith
namespace Go.Proofs.Ytkikmmnmppikpaa
open Go.RowKit
set_option linter.unusedVariables false

theorem PuzIn.cl {w : World} {v : Value} {t p : Int} {ps : List Pt} (h : PuzIn w v t p ps) : ∃ a cap, v = .agg #[.int .i64 t, .int .i64 p, .slice a ps.length cap] ∧ (ps.length ≤ cap ∧ cap ≤ maxLen) ∧ ClIn w a ps := by
  obtain ⟨a, cap, rfl, h1, hx⟩ := h
  exact ⟨a, cap, rfl, h1, hx.cl (Nat.le_refl _)⟩
theorem pzB_bad {t p : Int} {ps : List Pt} (h : goodB t p = false) : pzB t p ps = false := by simp [pzB, h]
theorem pzB_long {t p : Int} {ps : List Pt} (h : 6 < ps.length) : pzB t p ps = false := by
  rw [Bool.eq_false_iff]; intro e; have := (pzB_iff.1 e).2.1; omega
theorem pzB_all {t p : Int} {ps : List Pt} (h : goodB t p = true) (hl : ¬ 6 < ps.length) : pzB t p ps = ps.all clB := by
  have : ps.length ≤ 6 := by omega
  simp [pzB, h, this]

end Go.Proofs.Ytkikmmnmppikpaa
