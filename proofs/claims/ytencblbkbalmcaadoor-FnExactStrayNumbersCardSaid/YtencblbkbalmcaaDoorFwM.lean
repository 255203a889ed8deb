/-
  THE FIRST NUMBER OF A WAY THAT IS LESS, BEHIND AT MOST SO MANY STEPS: plain mathematics on lists of pairs. No program.
-/
import Derived.Test.YtencblbkbalmcaaDoorFind
namespace Go.Proofs.YtencblbkbalmcaaDoor

/-- The pairs are numbered. -/
def Numbered (S : List (Int × Int)) : Prop := ∀ pre x, (pre ++ [x]) <+: S → x.1 = (pre.length : Int)
theorem numbered_upto (f : Int → Int) (n : Int) (c : Nat) : Numbered (upto f n c) := by
  intro pre x h
  have hl := h.length_le
  rw [List.length_append, List.length_singleton, upto_length] at hl
  obtain ⟨r, hr⟩ := h
  have h2 : (upto f n c)[pre.length]? = some x := by
    rw [← hr, List.append_assoc, List.getElem?_append_right (Nat.le_refl _), Nat.sub_self]
    rfl
  unfold upto at h2
  rw [List.getElem?_map, List.getElem?_range (by omega)] at h2
  simp at h2
  rw [← h2]
theorem numbered_seq (t p : Int) (f : Int → Int) (n : Int) : Numbered (seqOf t p f n) := by
  unfold seqOf
  split
  · exact numbered_upto _ _ _
  · intro pre x h; have := h.length_le; simp at this
/-- The first, behind at most K steps. -/
def hitK (S : List (Int × Int)) (K : Nat) (q : Int × Int → Bool) : Int × Bool := hit (S.take (K + 1)) q Prod.fst
theorem hitK_some {S pre : List (Int × Int)} {K : Nat} {q : Int × Int → Bool} {x : Int × Int} (h : ∀ y ∈ pre, q y = false) (hx : q x = true) (hp : (pre ++ [x]) <+: S) (hK : pre.length ≤ K) : hitK S K q = (x.1, true) := by
  refine hit_some h hx ?_
  refine List.prefix_of_prefix_length_le hp (List.take_prefix _ _) ?_
  have := hp.length_le
  rw [List.length_append, List.length_singleton] at this ⊢
  rw [List.length_take]
  omega
theorem hitK_over {S pre : List (Int × Int)} {K : Nat} {q : Int × Int → Bool} {x : Int × Int} (h : ∀ y ∈ pre, q y = false) (hp : (pre ++ [x]) <+: S) (hK : K < pre.length) : hitK S K q = (0, false) := by
  refine hit_none (fun y hy => h y ?_)
  have h2 : S.take (K + 1) <+: pre := List.prefix_of_prefix_length_le (List.take_prefix _ _) ((List.prefix_append pre [x]).trans hp) (by rw [List.length_take]; omega)
  exact h2.subset hy
theorem hitK_none {S : List (Int × Int)} {K : Nat} {q : Int × Int → Bool} (h : ∀ y ∈ S, q y = false) : hitK S K q = (0, false) := hit_none (fun y hy => h y (List.mem_of_mem_take hy))
/-- No number so far is less. -/
def NoLs (n : Int) (pre : List (Int × Int)) : Prop := ∀ x ∈ pre, (decide (x.2 < n)) = false
/-- What FallsWithin comes to. -/
def fwi (t p n k : Int) : Int × Bool := if 1 ≤ k ∧ k ≤ 30 then hitK (seqOf t p (sx t p) n) k.toNat (fun x => decide (x.2 < n)) else (0, false)
end Go.Proofs.YtencblbkbalmcaaDoor
