/-
  THE RESIDUES THAT FALL BEHIND JUST SO MANY SIGNS (mathematics).
-/
import Derived.Test.YtgobjobppajkbaaDoorFaM
import Derived.Test.YtgobjobppajkbaaDoorWord
import Derived.Test.YtgobjobppajkbaaDoorRsp
import Derived.Test.YtgobjobppajkbaaDoorTri
namespace Go.Proofs.YtgobjobppajkbaaDoor
open Go.RowKit
set_option linter.unusedVariables false

/-- What is told of a residue that falls behind just K signs; zeros of another. -/
def frK (t p : Int) (K r : Nat) : Z3 := if fa t p r K = K then ((r : Int), (lin t p (wrd t p r K) K).1, (lin t p (wrd t p r K) K).2.1) else (0, 0, 0)
/-- Is it one? -/
def kB (q : Z3) : Bool := !(q.1 == 0 && (q.2.1 == 0 && q.2.2 == 0))
def frR (t p : Int) (K n : Nat) : List Z3 := (List.range n).map (frK t p K)
def frL (t p : Int) (K n : Nat) : List Z3 := (frR t p K n).filter kB
theorem frR_len (t p : Int) (K n : Nat) : (frR t p K n).length = n := by simp [frR]
theorem frR_at {t p : Int} {K n j : Nat} (h : j < n) : (frR t p K n).getD j (0, 0, 0) = frK t p K j := by simp [frR, List.getD_eq_getElem?_getD, h]
theorem frL_len (t p : Int) (K n : Nat) : (frL t p K n).length ≤ n := by
  have := List.length_filter_le kB (frR t p K n)
  rw [frR_len] at this
  exact this
theorem frK_yes {t p : Int} {K r : Nat} (h : fa t p r K = K) : frK t p K r = ((r : Int), (lin t p (wrd t p r K) K).1, (lin t p (wrd t p r K) K).2.1) := if_pos h
theorem frK_no {t p : Int} {K r : Nat} (h : fa t p r K ≠ K) : frK t p K r = (0, 0, 0) := if_neg h
theorem frL_yes {t p : Int} (hg : goodB t p = true) {K r : Nat} (h : fa t p r K = K) : frL t p K (r + 1) = frL t p K r ++ [((r : Int), (lin t p (wrd t p r K) K).1, (lin t p (wrd t p r K) K).2.1)] := by
  have hk : kB (frK t p K r) = true := by
    have := (linOk hg (signs_wrd t p r K) (k := K) (by rw [wrd_length]; exact Nat.le_refl _)).pos
    rw [frK_yes h, kB]
    have e : ((lin t p (wrd t p r K) K).1 == 0) = false := by simp; omega
    rw [e]; simp
  rw [frL, frR, List.range_succ, List.map_append, List.filter_append, List.map_singleton, List.filter_cons, hk, if_pos rfl, List.filter_nil, frK_yes h]
  rfl
theorem frL_no {t p : Int} {K r : Nat} (h : fa t p r K ≠ K) : frL t p K (r + 1) = frL t p K r := by
  rw [frL, frR, List.range_succ, List.map_append, List.filter_append, List.map_singleton, frK_no h]
  simp [kB, frL, frR]
theorem lin_res {t p : Int} (hg : goodB t p = true) {K r : Nat} (hr : (r : Int) < 2 ^ K) : (lin t p (wrd t p r K) K).2.2 = r := by
  have h := ((linOk hg (signs_wrd t p r K) (k := K) (by rw [wrd_length]; exact Nat.le_refl _)).just r).1 (by rw [List.take_of_length_le (by rw [wrd_length]; exact Nat.le_refl _)])
  rw [← h]
  exact Int.emod_eq_of_lt (by omega) hr
/-- Is it asked well? -/
def frB (t p k : Int) : Bool := (goodB t p && inB k 0 12) && !decide (k = 0)
def frA (t p k : Int) : List Z3 := if frB t p k = true then frL t p k.toNat (2 ^ k.toNat) else []
theorem frB_nat {t p k : Int} (h : frB t p k = true) : goodB t p = true ∧ ∃ K : Nat, k = K ∧ 1 ≤ K ∧ K ≤ 12 := by
  rw [frB, Bool.and_eq_true, Bool.and_eq_true] at h
  obtain ⟨⟨h1, h2⟩, h3⟩ := h
  obtain ⟨K, rfl, hK⟩ := inB_nat h2
  refine ⟨h1, K, rfl, ?_, by omega⟩
  have : ¬ ((K : Int) = 0) := by simpa using h3
  omega
theorem pow2F {K : Nat} (h : K ≤ 12) : 2 ^ K ≤ 4096 := Nat.le_trans (Nat.pow_le_pow_right (by decide) h) (by decide)
theorem frA_len (t p k : Int) : (frA t p k).length ≤ 5000 := by
  unfold frA
  split
  · rename_i h
    obtain ⟨_, K, rfl, _, hK⟩ := frB_nat h
    have := frL_len t p (K : Int).toNat (2 ^ (K : Int).toNat)
    have := pow2F (K := (K : Int).toNat) (by omega)
    omega
  · simp
end Go.Proofs.YtgobjobppajkbaaDoor
