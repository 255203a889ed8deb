/-
  A level of a root, if it is asked well and there is one.
-/
import Derived.Test.YtjcpdlamgjpmmaaLvM
import Derived.Test.YtjcpdlamgjpmmaaAskT
namespace Go.Proofs.Ytjcpdlamgjpmmaa
open Go.RowKit
set_option linter.unusedVariables false

/-- A level of a root, if it is asked well and there is one. -/
def lvO (short : Bool) (t p r k : Int) : Option (List Int) := if askT t p r k = true then levL short t p r k.toNat else none
theorem lvO_no {short : Bool} {t p r k : Int} (h : askT t p r k = false) : lvO short t p r k = none := by rw [lvO, if_neg (by simp [h])]
theorem lvO_yes {short : Bool} {t p r : Int} {K : Nat} (h : askT t p r K = true) : lvO short t p r K = levL short t p r K := by rw [lvO, if_pos h, Int.toNat_natCast]
theorem askT_parts {t p r k : Int} (h : askT t p r k = true) : goodB t p = true ∧ numB r = true ∧ inB k 0 20 = true ∧ ∃ K : Nat, k = K ∧ K ≤ 20 := by
  simp only [askT, Bool.and_eq_true] at h
  have hk : 0 ≤ k ∧ k ≤ 20 := by simpa [inB] using h.2
  exact ⟨h.1.1, h.1.2, h.2, k.toNat, by omega, by omega⟩
theorem lvO_some {short : Bool} {t p r k : Int} {xs : List Int} (h : lvO short t p r k = some xs) : askT t p r k = true ∧ goodB t p = true ∧ numB r = true ∧ ∃ K : Nat, k = K ∧ K ≤ 20 ∧ levL short t p r K = some xs := by
  cases ha : askT t p r k
  · rw [lvO_no ha] at h; cases h
  · obtain ⟨h1, h2, _, K, rfl, hK⟩ := askT_parts ha
    rw [lvO_yes ha] at h
    exact ⟨rfl, h1, h2, K, rfl, hK, h⟩
theorem lvO_len {short : Bool} {t p r k : Int} : ((lvO short t p r k).getD []).length ≤ 2000 := by
  cases h : lvO short t p r k with
  | none => simp
  | some xs => obtain ⟨_, _, _, K, rfl, _, hl⟩ := lvO_some h; exact levL_len hl
/-- A list, and whether there is one. -/
def lvX (short : Bool) (t p r k : Int) : List Int := (lvO short t p r k).getD []
def lvB (short : Bool) (t p r k : Int) : Bool := (lvO short t p r k).isSome
end Go.Proofs.Ytjcpdlamgjpmmaa
