/-
  PRIMITIVE WORDS THAT ARE THE FIRST ONES OF THEIR TURNS: lists of them. Plain mathematics.
-/
import Derived.Test.YtnhpoefhcngoaaaDoorTurn
import Derived.Test.YtnhpoefhcngoaaaDoorPowM
import Derived.Test.YtnhpoefhcngoaaaDoorCyM
namespace Go.Proofs.YtnhpoefhcngoaaaDoor
set_option linter.unusedVariables false

/-- The word of a pattern. -/
def pw (x L : Nat) : List UInt8 := patP x L L
theorem pw_length (x L : Nat) : (pw x L).length = L := patP_length x L L
theorem pw_signs (x L : Nat) : Signs (pw x L) := patP_signs x L L
/-- Is it primitive, and the first one of all its turns? -/
def ftB (l : List UInt8) : Bool := primB l && (leastT l == l)
/-- The words of the first n patterns that meet a condition. -/
def selX (f : List UInt8 → Bool) (L n : Nat) : List ByteArray := ((List.range n).filter fun x => f (pw x L)).map fun x => bts (pw x L)
theorem selX_zero (f : List UInt8 → Bool) (L : Nat) : selX f L 0 = [] := rfl
theorem selX_yes {f : List UInt8 → Bool} {L n : Nat} (h : f (pw n L) = true) : selX f L (n + 1) = selX f L n ++ [bts (pw n L)] := by
  simp [selX, List.range_succ, List.filter_append, h]
theorem selX_no {f : List UInt8 → Bool} {L n : Nat} (h : f (pw n L) = false) : selX f L (n + 1) = selX f L n := by
  simp [selX, List.range_succ, List.filter_append, h]
theorem selX_le (f : List UInt8 → Bool) (L n : Nat) : (selX f L n).length ≤ n := by
  unfold selX
  rw [List.length_map]
  refine Nat.le_trans (List.length_filter_le _ _) ?_
  simp
theorem selX_mem {f : List UInt8 → Bool} {L n : Nat} {s : ByteArray} (h : s ∈ selX f L n) : ∃ x, x < n ∧ s = bts (pw x L) ∧ f (pw x L) = true := by
  simp only [selX, List.mem_map, List.mem_filter, List.mem_range] at h
  obtain ⟨x, ⟨h1, h2⟩, rfl⟩ := h
  exact ⟨x, h1, rfl, h2⟩
/-- Those of a list of words that meet a second condition. -/
theorem selX_filter (f g : List UInt8 → Bool) (L n : Nat) : (selX f L n).filter (fun s => g s.data.toList) = selX (fun l => f l && g l) L n := by
  unfold selX
  rw [List.filter_map, List.filter_filter]
  congr 1
  refine List.filter_congr fun x _ => ?_
  simp only [Function.comp_def, bts_list]
  rw [Bool.and_comm]
theorem pow2_pos (L : Nat) : 0 < 2 ^ L := Nat.two_pow_pos L
theorem pow2_1024 {L : Nat} (h : L ≤ 10) : 2 ^ L ≤ 1024 := Nat.pow_le_pow_right (by decide) h
theorem ft_ten : ((List.range 1024).filter fun x => ftB (pw x 10)).length ≤ 900 := by decide +kernel
/-- There are few of them. -/
theorem ftX_len {L : Nat} (h : L ≤ 10) : (selX ftB L (2 ^ L)).length ≤ 900 := by
  by_cases h10 : L = 10
  · subst h10
    unfold selX
    rw [List.length_map]
    exact ft_ten
  · have h1 := selX_le ftB L (2 ^ L)
    have h2 : 2 ^ L ≤ 2 ^ 9 := Nat.pow_le_pow_right (by decide) (by omega)
    omega
theorem selX_sub (f g : List UInt8 → Bool) (L n : Nat) : (selX (fun l => f l && g l) L n).length ≤ (selX f L n).length := by
  rw [← selX_filter]
  exact List.length_filter_le _ _
/-- The words of all patterns, one sign more. -/
theorem pw_e (x L : Nat) : pw (2 * x) (L + 1) = pw x L ++ [101] := by
  unfold pw
  rw [patP_half, show 2 * x / 2 = x by omega]
  congr 1
  unfold par
  rw [if_pos (by omega)]
theorem pw_o (x L : Nat) : pw (2 * x + 1) (L + 1) = pw x L ++ [111] := by
  unfold pw
  rw [patP_half, show (2 * x + 1) / 2 = x by omega]
  congr 1
  unfold par
  rw [if_neg (by omega)]
/-- The words of the first n patterns. -/
def allX (L n : Nat) : List ByteArray := (List.range n).map fun x => bts (pw x L)
theorem allX_length (L n : Nat) : (allX L n).length = n := by simp [allX]
theorem allX_at {L n j : Nat} (h : j < n) : (allX L n).getD j ⟨#[]⟩ = bts (pw j L) := by simp [allX, List.getD_eq_getElem?_getD, h]
theorem allX_two (L j : Nat) : allX (L + 1) (2 * (j + 1)) = allX (L + 1) (2 * j) ++ [bts (pw j L ++ [101]), bts (pw j L ++ [111])] := by
  rw [← pw_e, ← pw_o]
  unfold allX
  rw [show 2 * (j + 1) = 2 * j + 1 + 1 by omega, List.range_succ, List.range_succ]
  simp
end Go.Proofs.YtnhpoefhcngoaaaDoor
