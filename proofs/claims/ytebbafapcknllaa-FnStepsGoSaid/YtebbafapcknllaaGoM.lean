/-
  WHAT THE ANSWERS OF CHAPTER 1 HAVE TO DO WITH EACH OTHER: plain lemmas over what each call comes to.
-/
import Derived.Test.YtebbafapcknllaaPeak
import Derived.Test.YtebbafapcknllaaOdds
import Derived.Test.YtebbafapcknllaaSpec2
import Derived.Test.YtebbafapcknllaaLawsA
import Derived.Test.YtebbafapcknllaaSNumAfter
namespace Go.Proofs.Ytebbafapcknllaa
open Go.RowKit
set_option linter.unusedVariables false

theorem itr_fst (f : Int → Int) (k : Nat) (n : Int) : itr f (k + 1) n = itr f k (f n) := rfl
/-- A step of an even number, of an odd one. -/
theorem nx_ev {t p v : Int} (h : oddB v = false) : nx t p v = v / 2 ∧ 2 * (v / 2) = v := by
  have e : v % 2 = 0 := by simp [oddB] at h; omega
  exact ⟨by rw [nx, if_pos e], by omega⟩
theorem nx_od {t p v : Int} (h : oddB v = true) : nx t p v = t * v + p := by
  have e : ¬ v % 2 = 0 := by simp [oddB] at h; omega
  rw [nx, if_neg e]
/-- The map of the other sign. -/
theorem neg_good {t p : Int} (hg : goodB t p = true) : goodB t (-p) = true := by
  have := goodB_iff.1 hg
  exact goodB_iff.2 (by omega)
theorem neg_num {n : Int} (hn : numB n = true) : numB (-n) = true := by
  have := numB_iff.1 hn
  exact numB_iff.2 (by omega)
theorem nx_neg (t p v : Int) : nx t (-p) (-v) = -(nx t p v) := by
  unfold nx
  by_cases e : v % 2 = 0
  · rw [if_pos (by omega), if_pos e]; omega
  · rw [if_neg (by omega), if_neg e, Int.mul_neg]; omega
theorem itr_neg (t p n : Int) : ∀ k, itr (nx t (-p)) k (-n) = -(itr (nx t p) k n)
  | 0 => rfl
  | k + 1 => by rw [itr_succ, itr_neg t p n k, nx_neg, itr_succ]
theorem num_neg (v : Int) : numB (-v) = numB v := by
  rw [Bool.eq_iff_iff, numB_iff, numB_iff]; omega
theorem allB_neg (t p n : Int) : ∀ k, allB (nx t (-p)) (-n) k = allB (nx t p) n k
  | 0 => rfl
  | k + 1 => by rw [allB_succ, allB_neg t p n k, itr_neg, num_neg, allB_succ]
theorem good_neg (t p : Int) : goodB t (-p) = goodB t p := by
  rw [Bool.eq_iff_iff, goodB_iff, goodB_iff]; omega
theorem aft_neg (t p n k : Int) : aft t (-p) (nx t (-p)) (-n) k = (-(aft t p (nx t p) n k).1, (aft t p (nx t p) n k).2) := by
  unfold aft
  rw [allB_neg, askB, good_neg, num_neg, itr_neg, ← askB]
  split <;> simp
theorem aft_ok {t p n k : Int} {f : Int → Int} (h : (aft t p f n k).2 = true) : (aft t p f n k).1 = itr f k.toNat n := by
  unfold aft at h ⊢
  split
  · rfl
  · rename_i hh; rw [if_neg hh] at h; cases h
/-- Behind one step, and behind the others. -/
theorem aft_parts {t p n k : Int} {f : Int → Int} (h : (aft t p f n k).2 = true) (hk : 0 < k) :
    aft t p f n 1 = (f n, true) ∧ aft t p f (f n) (k - 1) = ((aft t p f n k).1, true) := by
  obtain ⟨K, rfl, hK, hg, hn, hall, hask⟩ := aft_yes h
  obtain ⟨J, rfl⟩ : ∃ J, K = J + 1 := ⟨K - 1, by omega⟩
  have hn1 : numB (f n) = true := by
    have := allB_at (f := f) (n := n) (j := 1) (k := J + 1 + 1) (by omega) hall
    exact this
  rw [aft_one hg hn, hn1]
  have hall2 : allB f (f n) (J + 1) = true := by
    rw [allB_shift, Bool.and_eq_true] at hall
    exact hall.2
  have hj : (((J + 1 : Nat) : Int) - 1).toNat = J := by omega
  refine ⟨by simp, ?_⟩
  rw [aft_ok h]
  unfold aft
  rw [hj, if_pos ⟨askB_iff.2 ⟨hg, hn1, by omega, by omega⟩, hall2⟩]
  rfl
/-- A short step is a step, or two. -/
theorem half_short {t p x : Int} (h1 : (aft t p (nx t p) x 1).2 = true) (h2 : (aft t p (sx t p) x 1).2 = true) :
    (aft t p (sx t p) x 1).1 = if oddB x = true then (aft t p (nx t p) x 1).1.tdiv 2 else (aft t p (nx t p) x 1).1 := by
  rw [aft_ok h1, aft_ok h2]
  obtain ⟨K, hK, _, hg, _⟩ := aft_yes h1
  obtain ⟨g1, g2, g3, g4, g5, g6⟩ := goodB_iff.1 hg
  show sx t p x = if oddB x = true then (nx t p x).tdiv 2 else nx t p x
  cases ho : oddB x
  · have e : x % 2 = 0 := by simp [oddB] at ho; omega
    simp [sx, nx, e]
  · have e : ¬ x % 2 = 0 := by simp [oddB] at ho; omega
    rw [if_pos rfl, sx, if_neg e, nx, if_neg e]
    have hev : (t * x + p) % 2 = 0 := by
      have ht : t % 2 = 1 := g3
      have hx : x % 2 = 1 := by omega
      have : (t * x) % 2 = 1 := by rw [Int.mul_emod, ht, hx]; decide
      omega
    obtain ⟨c, hc⟩ : ∃ c, t * x + p = 2 * c := ⟨(t * x + p) / 2, by omega⟩
    rw [hc, Int.mul_ediv_cancel_left _ (by decide), Int.mul_tdiv_cancel_left _ (by decide)]
/-- How soon a number of the way is there first. -/
theorem sto_yes {t p n : Int} {K : Nat} (hg : goodB t p = true) (hK : K ≤ 1000) (hall : allB (nx t p) n (K + 1) = true) :
    ∃ J : Nat, J ≤ K ∧ sto t p n (itr (nx t p) K n) = ((J : Int), true) ∧ itr (nx t p) J n = itr (nx t p) K n := by
  have hmem : ((K : Int), itr (nx t p) K n) ∈ seqOf t p (nx t p) n := by
    rw [seqOf, if_pos hg, upto, List.mem_map]
    have hlt : K < cntF (nx t p) 1001 n := (lt_cnt _ _ _ _).2 ⟨by omega, hall⟩
    exact ⟨K, by simpa using hlt, rfl⟩
  unfold sto hit
  have hS : seqOf t p (nx t p) n = upto (nx t p) n (cntF (nx t p) 1001 n) := by rw [seqOf, if_pos hg]
  rw [hS] at hmem ⊢
  generalize cntF (nx t p) 1001 n = C at hmem
  have hKC : K < C := by
    obtain ⟨j, hj, e⟩ := mem_upto hmem
    have : (K : Int) = j := congrArg Prod.fst e
    omega
  obtain ⟨J, hJ, hf⟩ : ∃ J : Nat, J ≤ K ∧ (upto (nx t p) n C).find? (fun x => x.2 == itr (nx t p) K n) = some ((J : Int), itr (nx t p) J n) ∧ itr (nx t p) J n = itr (nx t p) K n := by
    cases hx : (upto (nx t p) n C).find? (fun x => x.2 == itr (nx t p) K n) with
    | none =>
      rw [List.find?_eq_none] at hx
      have := hx _ hmem
      simp at this
    | some x =>
      have hq := List.find?_some hx
      have hm := List.mem_of_find?_eq_some hx
      obtain ⟨j, hj, rfl⟩ := mem_upto hm
      have hjv : itr (nx t p) j n = itr (nx t p) K n := by simpa using hq
      refine ⟨j, ?_, rfl, hjv⟩
      -- the first one is not behind K
      by_cases hle : j ≤ K
      · exact hle
      · exfalso
        have hp : upto (nx t p) n (K + 1) <+: upto (nx t p) n C := upto_prefix _ _ (by omega)
        obtain ⟨rest, hrest⟩ := hp
        rw [← hrest, List.find?_append] at hx
        cases hy : (upto (nx t p) n (K + 1)).find? (fun x => x.2 == itr (nx t p) K n) with
        | none =>
          rw [List.find?_eq_none] at hy
          have := hy ((K : Int), itr (nx t p) K n) (by rw [upto_succ]; simp)
          simp at this
        | some y =>
          rw [hy] at hx
          have hy2 := List.mem_of_find?_eq_some hy
          obtain ⟨i, hi, rfl⟩ := mem_upto hy2
          simp only [Option.some_or, Option.some.injEq, Prod.mk.injEq] at hx
          omega
  rw [hf.1]
  exact ⟨J, hJ, rfl, hf.2⟩
end Go.Proofs.Ytebbafapcknllaa
