/-
  RESIDUES THAT NOTHING COMES TO: as both tell them. No program.
-/
import Derived.Test.YtpfclanblcngfaaRsM
import Derived.Test.YtpfclanblcngfaaRnI
import Derived.Test.YtpfclanblcngfaaSv
namespace Go.Proofs.Ytpfclanblcngfaa
open Go.RowKit
set_option linter.unusedVariables false

/-- What the first k residues come to. -/
def hitL (t p M : Int) (k : Nat) : List Int := (List.range k).flatMap fun (r : Nat) => [nb t p M (r : Int) 0, nb t p M (r : Int) 1]
theorem hitL_succ (t p M : Int) (k : Nat) : hitL t p M (k + 1) = hitL t p M k ++ [nb t p M (k : Int) 0, nb t p M (k : Int) 1] := by
  simp [hitL, List.range_succ]
def nvL (t p : Int) (K : Nat) : List Int := (upL 0 K).filter fun x => decide (x ∉ hitL t p K K)
def askN (t p M : Int) : Bool := goodB t p && inB M 1 60
def nvA (t p M : Int) : List Int := if askN t p M = true then nvL t p M.toNat else []
theorem nvL_len (t p : Int) (K : Nat) : (nvL t p K).length ≤ K := by
  have := List.length_filter_le (fun x => decide (x ∉ hitL t p K K)) (upL 0 K)
  rw [upL_length] at this
  exact this
theorem nvA_len (t p M : Int) : (nvA t p M).length ≤ 1000000000000 := by
  unfold nvA
  split
  · rename_i h
    have hm : M.toNat ≤ 60 := by simp [askN, inB] at h; omega
    exact Nat.le_trans (nvL_len _ _ _) (Nat.le_trans hm (by decide))
  · simp
theorem nvA_no {t p M : Int} (h : askN t p M = false) : nvA t p M = [] := by rw [nvA, if_neg (by simp [h])]
theorem nvA_yes {t p : Int} {K : Nat} (h : askN t p K = true) : nvA t p K = nvL t p K := by rw [nvA, if_pos h]; rfl
/-- A set of residues as truth values. -/
def bitsL (K : Nat) (S : List Int) : List Value := (List.range K).map fun (i : Nat) => .bool (decide ((i : Int) ∈ S))
theorem bitsL_length (K : Nat) (S : List Int) : (bitsL K S).length = K := by simp [bitsL]
theorem bitsL_at {K j : Nat} (S : List Int) (h : j < K) : (bitsL K S)[j]? = some (.bool (decide ((j : Int) ∈ S))) := by
  unfold bitsL
  rw [List.getElem?_map, List.getElem?_range h]; rfl
theorem bitsL_nil (K : Nat) : bitsL K [] = List.replicate K (.bool false) := by
  refine List.ext_getElem? fun i => ?_
  by_cases hi : i < K
  · rw [bitsL_at _ hi]; simp [hi]
  · rw [List.getElem?_eq_none (by simp [bitsL_length]; omega), List.getElem?_eq_none (by simp; omega)]
theorem bitsL_ext {K : Nat} {S S' : List Int} (h : ∀ x, x ∈ S ↔ x ∈ S') : bitsL K S = bitsL K S' := by
  unfold bitsL
  simp only [h]
theorem bitsL_set {K : Nat} {S : List Int} (j : Nat) : (bitsL K S).set j (.bool true) = bitsL K (S ++ [(j : Int)]) := by
  refine List.ext_getElem? fun i => ?_
  by_cases hi : i < K
  · rw [bitsL_at _ hi]
    by_cases e : j = i
    · subst e
      rw [List.getElem?_set_self (by rw [bitsL_length]; exact hi)]
      simp
    · rw [List.getElem?_set_ne e, bitsL_at _ hi]
      have : ((i : Int) = (j : Int)) = False := by simp; omega
      simp [this]
  · rw [List.getElem?_eq_none (by simp [bitsL_length]; omega), List.getElem?_eq_none (by simp [bitsL_length]; omega)]
theorem take_snocI {xs : List Int} {j : Nat} (h : j < xs.length) : xs.take (j + 1) = xs.take j ++ [xs.getD j 0] := by
  rw [List.take_succ_eq_append_getElem h, List.getD_eq_getElem?_getD, List.getElem?_eq_getElem h]; rfl
theorem IntRow.other {w : World} {g k o : Nat} {xs : List Int} (h : IntRow w g xs) (hne : g ≠ k) (u : Value) : IntRow (w.setCell ⟨k, o, none⟩ u) g xs :=
  fun j hj => ⟨(World.cell?_setCell_other _ _ _ _ (by simp <;> omega)).trans (h j hj).1, (World.frozen?_setCell ..).trans (h j hj).2⟩
/-- The list of what nothing comes to, the first j asked. -/
def nvJ (S : List Int) (j : Nat) : List Int := (upL 0 j).filter fun x => decide (x ∉ S)
theorem nvJ_yes {S : List Int} {j : Nat} (h : (j : Int) ∉ S) : nvJ S (j + 1) = nvJ S j ++ [(j : Int)] := by
  unfold nvJ; rw [upL_succ, List.filter_append]; simp [h]
theorem nvJ_no {S : List Int} {j : Nat} (h : (j : Int) ∈ S) : nvJ S (j + 1) = nvJ S j := by
  unfold nvJ; rw [upL_succ, List.filter_append]; simp [h]
theorem nvJ_len (S : List Int) (j : Nat) : (nvJ S j).length ≤ j := by
  have := List.length_filter_le (fun x => decide (x ∉ S)) (upL 0 j)
  rw [upL_length] at this
  exact this
end Go.Proofs.Ytpfclanblcngfaa
