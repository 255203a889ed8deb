/-
  ODD PARTS AND THE REST OF CHAPTER 1, AS THE LAW 'OddPartsOfAll' ASKS (mathematics).
-/
import Derived.Test.YtmocbkpfoddffaaDoorGoM
import Derived.Test.YtmocbkpfoddffaaDoorNext
namespace Go.Proofs.YtmocbkpfoddffaaDoor
open Go.RowKit
set_option linter.unusedVariables false

theorem pk_ok' (s : Bool) (t p n k : Int) : (pk s t p n k).2.2 = (aft t p (nx t p) n k).2 := by
  unfold pk
  split
  · rename_i h; exact h.symm
  · rename_i h; simpa using h
theorem hlv_back : ∀ (N : Nat) (n : Int), n.natAbs ≤ N → n ≠ 0 → (hlv n).1 * 2 ^ (hlv n).2 = n ∧ (hlv n).1 % 2 ≠ 0
  | 0, n, h, h0 => by omega
  | N + 1, n, h, h0 => by
    by_cases he : n % 2 = 0
    · obtain ⟨i1, i2⟩ := hlv_back N (n / 2) (by omega) (by omega)
      rw [hlv_even h0 he]
      dsimp only
      refine ⟨?_, i2⟩
      rw [Int.pow_succ, ← Int.mul_assoc, i1]
      omega
    · rw [hlv_odd he]
      exact ⟨by simp, he⟩
theorem pow_nat (m : Nat) : ((2 : Int) ^ m) = ((2 ^ m : Nat) : Int) := by simp
/-- What OddPart tells. -/
theorem odp_yes {n : Int} (h : (odp n).2.2 = true) : ∃ m : Nat, (odp n).2.1 = m ∧ m ≤ 40 ∧ (odp n).1 % 2 ≠ 0 ∧ (odp n).1 * 2 ^ m = n ∧ n ≠ 0 ∧ (hlv n).2 = m ∧ -1000000000000 ≤ n ∧ n ≤ 1000000000000 := by
  unfold odp at h ⊢
  split at h
  · rename_i hn
    rw [if_pos hn]
    obtain ⟨h1, h2⟩ := hlv_back _ n (Nat.le_refl _) hn.1
    obtain ⟨n1, n2⟩ := numB_iff.1 hn.2
    refine ⟨(hlv n).2, rfl, ?_, h2, h1, hn.1, rfl, n1, n2⟩
    by_cases hm : (hlv n).2 ≤ 40
    · exact hm
    · exfalso
      have h3 : (2 : Int) ^ 41 ≤ 2 ^ (hlv n).2 := by
        have := Nat.pow_le_pow_right (n := 2) (by decide) (show 41 ≤ (hlv n).2 by omega)
        rw [pow_nat, pow_nat]
        exact_mod_cast this
      have h4 : (2 : Int) ^ 41 = 2199023255552 := by decide
      have h5 : (hlv n).1 ≠ 0 := by intro e; rw [e] at h2; exact h2 rfl
      rw [h4] at h3
      generalize (2 : Int) ^ (hlv n).2 = P at *
      generalize (hlv n).1 = o at *
      rcases Int.lt_or_gt_of_ne h5 with h6 | h6
      · have : o * P ≤ -1 * P := Int.mul_le_mul_of_nonneg_right (by omega) (by omega)
        omega
      · have : 1 * P ≤ o * P := Int.mul_le_mul_of_nonneg_right (by omega) (by omega)
        omega
  · cases h
/-- What is on the way back. -/
theorem back_small {o n : Int} {m k : Nat} (h : o * 2 ^ m = n) (hk : k ≤ m) (n1 : -1000000000000 ≤ n) (n2 : n ≤ 1000000000000) : -1000000000000 ≤ o * 2 ^ k ∧ o * 2 ^ k ≤ 1000000000000 := by
  obtain ⟨d, rfl⟩ : ∃ d, m = k + d := ⟨m - k, by omega⟩
  rw [Int.pow_add, ← Int.mul_assoc] at h
  have hp : (1 : Int) ≤ 2 ^ d := by
    rw [pow_nat]
    exact_mod_cast Nat.one_le_two_pow
  generalize (2 : Int) ^ d = P at *
  generalize o * 2 ^ k = B at *
  rcases Int.lt_or_le B 0 with h6 | h6
  · have : B * P ≤ B * 1 := Int.mul_le_mul_of_nonpos_left (by omega) hp
    omega
  · have : B * 1 ≤ B * P := Int.mul_le_mul_of_nonneg_left hp h6
    omega
/-- What OddNext tells. -/
theorem odn_yes {t p x : Int} (h : (odn t p x).2.2 = true) : (aft t p (nx t p) x 1).2 = true ∧ oddB x = true ∧ odp (aft t p (nx t p) x 1).1 = odn t p x ∧ 1 ≤ (odn t p x).2.1 := by
  have h0 := h
  unfold odn at h
  split at h
  · rename_i hh
    have e : odn t p x = odp (aft t p (nx t p) x 1).1 := by rw [odn, if_pos hh]
    obtain ⟨m, h1, _, h3, h4, h5, h6, _⟩ := odp_yes h
    refine ⟨hh.1, hh.2, e.symm, ?_⟩
    rw [e, h1]
    obtain ⟨K, hK, _, hg, hn, _, _⟩ := aft_yes hh.1
    have hv : (aft t p (nx t p) x 1).1 = t * x + p := by
      rw [aft_ok hh.1]
      exact nx_od hh.2
    obtain ⟨_, _, g3, _, _, g6⟩ := goodB_iff.1 hg
    have hx : x % 2 ≠ 0 := by simpa [oddB] using hh.2
    have hev := odd_even g3 g6 hx
    rw [← hv] at hev
    by_cases hm : m = 0
    · exfalso
      subst hm
      rw [hlv_even h5 hev] at h6
      cases h6
    · omega
  · cases h
theorem seq_mem {t p n : Int} {x : Int × Int} (h : x ∈ seqOf t p (nx t p) n) : ∃ j : Nat, j ≤ 1000 ∧ x = ((j : Int), itr (nx t p) j n) ∧ goodB t p = true ∧ allB (nx t p) n (j + 1) = true := by
  unfold seqOf at h
  split at h
  · rename_i hg
    obtain ⟨j, hj, rfl⟩ := mem_upto h
    obtain ⟨h1, h2⟩ := (lt_cnt _ _ _ _).1 hj
    exact ⟨j, by omega, rfl, hg, h2⟩
  · simp at h
theorem aft_at {t p n : Int} {j : Nat} (hj : j ≤ 1000) (hg : goodB t p = true) (hall : allB (nx t p) n (j + 1) = true) : aft t p (nx t p) n j = (itr (nx t p) j n, true) := by
  have hn : numB n = true := allB_at (j := 0) (k := j + 1) (by omega) hall
  have e : ((j : Int)).toNat = j := by omega
  unfold aft
  rw [e, if_pos ⟨askB_iff.2 ⟨hg, hn, by omega, by omega⟩, hall⟩]
/-- What StepsTo tells. -/
theorem sto_back {t p n g : Int} (h : (sto t p n g).2 = true) : aft t p (nx t p) n (sto t p n g).1 = (g, true) := by
  unfold sto hit at h ⊢
  cases hx : (seqOf t p (nx t p) n).find? (fun x => x.2 == g) with
  | none => rw [hx] at h; cases h
  | some x =>
    have hq := List.find?_some hx
    obtain ⟨j, hj, rfl, hg, hall⟩ := seq_mem (List.mem_of_find?_eq_some hx)
    dsimp only
    rw [aft_at hj hg hall]
    have : itr (nx t p) j n = g := by simpa using hq
    rw [this]
theorem fbl_first {t p n : Int} {j : Nat} (hx : (seqOf t p (nx t p) n).find? (fun x => decide (x.2 < n)) = some ((j : Int), itr (nx t p) j n)) (hg : goodB t p = true) : ∀ i, i < j → n ≤ itr (nx t p) i n := by
  intro i hi
  have hS : seqOf t p (nx t p) n = upto (nx t p) n (cntF (nx t p) 1001 n) := by rw [seqOf, if_pos hg]
  rw [hS] at hx
  generalize cntF (nx t p) 1001 n = C at hx
  have hm := List.mem_of_find?_eq_some hx
  have hjC : j < C := by
    obtain ⟨k, hk, e⟩ := mem_upto hm
    have : (j : Int) = k := congrArg Prod.fst e
    omega
  by_cases hlt : itr (nx t p) i n < n
  · exfalso
    have hp : upto (nx t p) n (i + 1) <+: upto (nx t p) n C := upto_prefix _ _ (by omega)
    obtain ⟨rest, hr⟩ := hp
    rw [← hr, List.find?_append] at hx
    have hin : ((i : Int), itr (nx t p) i n) ∈ upto (nx t p) n (i + 1) := by
      rw [upto, List.mem_map]
      exact ⟨i, by simp, rfl⟩
    cases hf : (upto (nx t p) n (i + 1)).find? (fun x => decide (x.2 < n)) with
    | none =>
      rw [List.find?_eq_none] at hf
      have := hf _ hin
      simp at this
      omega
    | some y =>
      rw [hf] at hx
      have hy := List.mem_of_find?_eq_some hf
      obtain ⟨k, hk, rfl⟩ := mem_upto hy
      have : (k : Int) = j := by
        have := congrArg (fun o => o.map Prod.fst) hx
        simpa using this
      omega
  · omega
/-- What FirstBelow tells. -/
theorem fbl_yes {t p n : Int} (h : (fbl t p n).2 = true) : ∃ j : Nat, (fbl t p n).1 = j ∧ 1 ≤ j ∧ j ≤ 1000 ∧ aft t p (nx t p) n j = (itr (nx t p) j n, true) ∧ itr (nx t p) j n < n ∧ (pk false t p n ((j : Int) - 1)).2.2 = true ∧ n ≤ (pk false t p n ((j : Int) - 1)).1 := by
  unfold fbl hit at h ⊢
  cases hx : (seqOf t p (nx t p) n).find? (fun x => decide (x.2 < n)) with
  | none => rw [hx] at h; cases h
  | some x =>
    have hq := List.find?_some hx
    obtain ⟨j, hj, rfl, hg, hall⟩ := seq_mem (List.mem_of_find?_eq_some hx)
    have hlt : itr (nx t p) j n < n := by simpa using hq
    have hj1 : 1 ≤ j := by
      rcases Nat.eq_zero_or_pos j with rfl | h1
      · exact absurd hlt (by show ¬ n < n; omega)
      · exact h1
    have hfirst := fbl_first hx hg
    have ha := aft_at hj hg hall
    have ha1 := aft_at (t := t) (p := p) (n := n) (j := j - 1) (by omega) hg (allB_le (by omega) hall)
    have e : ((j - 1 : Nat) : Int) = (j : Int) - 1 := by omega
    rw [e] at ha1
    refine ⟨j, rfl, hj1, hj, ha, hlt, ?_, ?_⟩
    · rw [pk_ok', ha1]
    · unfold pk
      rw [if_pos (by rw [ha1])]
      dsimp only
      have hf := far_le false (way t p n) ((j : Int) - 1).toNat
      rw [best]
      exact hfirst _ (by omega)
end Go.Proofs.YtmocbkpfoddffaaDoor
