/-
  WHAT IS BEHIND SO MANY STEPS: plain lemmas over the leaves.
-/
import Derived.Test.YtnhpoefhcngoaaaDoorLeafB
namespace Go.Proofs.YtnhpoefhcngoaaaDoor
open Go.RowKit
set_option linter.unusedVariables false

/-- What is behind k steps of a kind, and whether it is there. -/
def aft (t p : Int) (f : Int → Int) (n k : Int) : Int × Bool :=
  if askB t p n k = true ∧ allB f n (k.toNat + 1) = true then (itr f k.toNat n, true) else (0, false)

theorem mem_upto {f : Int → Int} {n : Int} {K : Nat} {x : Int × Int} (h : x ∈ upto f n K) : ∃ j : Nat, j < K ∧ x = ((j : Int), itr f j n) := by
  simp only [upto, List.mem_map, List.mem_range] at h
  obtain ⟨j, hj, rfl⟩ := h
  exact ⟨j, hj, rfl⟩
/-- Behind one step. -/
theorem aft_one {t p : Int} {f : Int → Int} {n : Int} (hg : goodB t p = true) (hn : numB n = true) : aft t p f n 1 = (if numB (f n) = true then f n else 0, numB (f n)) := by
  have ha : askB t p n 1 = true := by simp [askB, inB, hg, hn]
  have hl : allB f n ((1 : Int).toNat + 1) = numB (f n) := by
    show allB f n 2 = _
    rw [show (2 : Nat) = 1 + 1 from rfl, allB_succ, allB_succ]
    simp [allB, itr, hn]
  unfold aft
  rw [ha, hl]
  by_cases h : numB (f n) = true
  · simp [h, itr]
  · simp [h]
theorem aft_not {t p : Int} {f : Int → Int} {n k : Int} (h : goodB t p = false ∨ numB n = false) : aft t p f n k = (0, false) := by
  unfold aft
  rw [if_neg]
  rintro ⟨ha, _⟩
  simp only [askB, Bool.and_eq_true] at ha
  rcases h with h | h <;> simp [h] at ha

/-- A part of what a walk gives that ends at k: its numbers are the path of k steps. -/
theorem aft_of_prefix {t p : Int} {f : Int → Int} {n k v : Int} {pre : List (Int × Int)} (hp : (pre ++ [(k, v)]) <+: seqOf t p f n) :
    (aft t p f n k).2 = true ∧ (pre ++ [(k, v)]).map (·.2) = (List.range (k.toNat + 1)).map (fun (i : Nat) => itr f i n) := by
  unfold seqOf at hp
  split at hp
  · rename_i hg
    obtain ⟨he, hl⟩ := prefix_upto hp
    have hlen : (pre ++ [(k, v)]).length = pre.length + 1 := by simp
    rw [hlen] at he hl
    have hk : (k, v) = ((pre.length : Int), itr f pre.length n) := by
      rw [upto_succ] at he
      have := List.append_inj_right' he rfl
      simpa using this
    have hk1 : k = (pre.length : Int) := congrArg Prod.fst hk
    have hc := (lt_cnt f 1001 n pre.length).1 (by omega)
    have hn : numB n = true := allB_at (f := f) (n := n) (j := 0) (k := pre.length + 1) (by omega) hc.2
    have ht : k.toNat = pre.length := by omega
    refine ⟨?_, ?_⟩
    · unfold aft
      rw [if_pos ⟨by simp only [askB, inB, Bool.and_eq_true, decide_eq_true_eq]; exact ⟨⟨hg, hn⟩, by omega⟩, by rw [ht]; exact hc.2⟩]
    · rw [he, ht, upto, List.map_map]; rfl
  · obtain ⟨r, hr⟩ := hp
    simp at hr
theorem aft_of_none {t p : Int} {f : Int → Int} {n k : Int} (h : ∀ x ∈ seqOf t p f n, x.1 ≠ k) : (aft t p f n k).2 = false := by
  unfold aft
  split
  · rename_i ha
    exfalso
    obtain ⟨hk, hl⟩ := ha
    simp only [askB, inB, Bool.and_eq_true, decide_eq_true_eq] at hk
    have hlt : k.toNat < cntF f 1001 n := (lt_cnt _ _ _ _).2 ⟨by omega, hl⟩
    refine h ((k.toNat : Int), itr f k.toNat n) ?_ (by dsimp only; omega)
    rw [seqOf, if_pos hk.1.1, upto, List.mem_map]
    exact ⟨k.toNat, by simpa using hlt, rfl⟩
  · rfl
theorem seqOf_length (t p : Int) (f : Int → Int) (n : Int) : (seqOf t p f n).length ≤ 1001 := by
  unfold seqOf
  split
  · rw [upto_length]
    by_cases h : cntF f 1001 n ≤ 1001
    · exact h
    · have := (lt_cnt f 1001 n 1001).1 (by omega)
      omega
  · simp
end Go.Proofs.YtnhpoefhcngoaaaDoor
