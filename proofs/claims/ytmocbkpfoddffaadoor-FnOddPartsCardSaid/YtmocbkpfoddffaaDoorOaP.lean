/-
  'ParseMap' of both, whatever is given, as the law 'OddPartsOfAll' asks.
-/
import Derived.Test.YtmocbkpfoddffaaDoorParseLaw
namespace Go.Proofs.YtmocbkpfoddffaaDoor
open Go.RowKit
set_option linter.unusedVariables false

theorem rdm_back {s : ByteArray} (h : (rdm s).1 ≠ 0) : goodB (rdm s).1 (rdm s).2 = true ∧ byt (mtx (rdm s).1 (rdm s).2) = s := by
  unfold rdm rdp at h ⊢
  split at h
  · rename_i hh
    rw [if_pos hh]
    exact hh
  · exact absurd rfl h
theorem rdm_text {t p : Int} (h : goodB t p = true) : rdm (byt (mtx t p)) = (t, p) := by
  have k := goodB_iff.1 h
  obtain ⟨A, hA, rfl⟩ : ∃ A : Nat, A < 5 ∧ t = 2 * (A : Int) + 1 := ⟨((t - 1) / 2).toNat, by omega, by omega⟩
  obtain ⟨B, hB, rfl⟩ : ∃ B : Nat, B < 10 ∧ p = 2 * (B : Int) - 9 := ⟨((p + 9) / 2).toNat, by omega, by omega⟩
  exact rdm_yes hA hB rfl
/-- Is a map told so? -/
def rdB (s : ByteArray) : Bool := decide ((rdm s).1 ≠ 0)
theorem iParseA (s : ByteArray) (hs : s.size ≤ 1048576) (w : World) (hw : Set3 w) :
    Calls Tryd.prog 20 #[.string s] w fun e w' => e = .returned (.tuple #[.agg #[.int .i64 (rdm s).1, .int .i64 (rdm s).2], .bool (rdB s)]) ∧ Below w.heap.size w w' := by
  by_cases h : (rdm s).1 = 0
  · have e : rdm s = (0, 0) := by
      unfold rdm rdp at h ⊢
      split at h
      · rename_i hh
        have := (goodB_iff.1 hh.1).1
        dsimp only at h
        omega
      · rename_i hh; rw [if_neg hh]
    have eb : rdB s = false := by rw [rdB, h]; rfl
    rw [eb, e]
    exact iParse_zero s hs e w hw
  · have hg := (rdm_back h).1
    have ht := (goodB_iff.1 hg).1
    have eb : rdB s = true := by rw [rdB]; exact decide_eq_true h
    rw [eb]
    exact iParse_pos s hs (rdm s).1 (rdm s).2 rfl ht w hw
theorem mpParse_all (s : ByteArray) (w : World) :
    Calls Tryd.prog 47 #[.string s] w fun e w' => e = .returned (.tuple #[.agg #[.int .i64 (rdm s).1, .int .i64 (rdm s).2], .bool (rdB s)]) ∧ Below w.heap.size w w' := by
  rcases which s with ⟨A, B, hA, hB, hs⟩ | hs
  · have e := rdm_yes hA hB hs
    rw [rdB, e, decide_eq_true (show (2 * (A : Int) + 1) ≠ 0 by omega)]
    exact mpParse_yes A B hA hB s hs w
  · rw [rdB, rdm_no hs]
    exact mpParse_no s hs w
theorem sParseA (s : ByteArray) (w : World) :
    Calls Tryd.prog 21 #[.string s] w fun e w' => e = .returned (.tuple #[.agg #[.int .i64 (rdm s).1, .int .i64 (rdm s).2], .bool (rdB s)]) ∧ Below w.heap.size w w' :=
  sParse_with s _ _ _ w (fun W => mpParse_all s W)
theorem rdB_iff {s : ByteArray} : rdB s = true ↔ (rdm s).1 ≠ 0 := by rw [rdB, decide_eq_true_eq]
theorem rdB_text {t p : Int} (h : goodB t p = true) : rdB (byt (mtx t p)) = true := by
  rw [rdB_iff, rdm_text h]
  have := (goodB_iff.1 h).1
  dsimp only
  omega
end Go.Proofs.YtmocbkpfoddffaaDoor
