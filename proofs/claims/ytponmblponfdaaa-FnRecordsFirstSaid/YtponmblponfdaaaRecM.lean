/-
  PLAIN MATHEMATICS OF RECORDS: what is kept of records that are given one after the other, the last one of them, the longest run. No Go, no program.
-/
import Derived.Test.YtponmblponfdaaaMath
namespace Go.Proofs.Ytponmblponfdaaa
set_option linter.unusedVariables false

/-- The last record, or none. -/
def lastR (rs : List (Int × Int)) : Int × Int := rs.getLast?.getD (0, 0)
theorem lastR_nil : lastR [] = (0, 0) := rfl
theorem lastR_snoc (rs : List (Int × Int)) (r : Int × Int) : lastR (rs ++ [r]) = r := by simp [lastR]
/-- Is there a record? -/
def anyR (rs : List (Int × Int)) : Bool := decide (lastR rs ≠ (0, 0))
/-- What is kept when one more is given. -/
def keep (rs : List (Int × Int)) (r : Int × Int) : List (Int × Int) := if lastR rs = (0, 0) ∨ (lastR rs).2 < r.2 then rs ++ [r] else rs
theorem keep_new {rs : List (Int × Int)} {r : Int × Int} (h : lastR rs = (0, 0) ∨ (lastR rs).2 < r.2) : keep rs r = rs ++ [r] := by rw [keep, if_pos h]
theorem keep_old {rs : List (Int × Int)} {r : Int × Int} (h : ¬ (lastR rs = (0, 0) ∨ (lastR rs).2 < r.2)) : keep rs r = rs := by rw [keep, if_neg h]
theorem keep_len (rs : List (Int × Int)) (r : Int × Int) : rs.length ≤ (keep rs r).length ∧ (keep rs r).length ≤ rs.length + 1 := by
  unfold keep
  split <;> simp
/-- Records of numbers from 1 on, each with at least -1: none has none of both. -/
def RecOk (rs : List (Int × Int)) : Prop := (lastR rs = (0, 0) ↔ rs = []) ∧ ∀ r ∈ rs, 1 ≤ r.1 ∧ 0 ≤ r.2
theorem recOk_nil : RecOk [] := ⟨by simp [lastR_nil], by simp⟩
theorem RecOk.snoc {rs : List (Int × Int)} {r : Int × Int} (h : RecOk rs) (h1 : 1 ≤ r.1) (h2 : 0 ≤ r.2) : RecOk (rs ++ [r]) := by
  refine ⟨?_, ?_⟩
  · rw [lastR_snoc]
    constructor
    · intro e; rw [e] at h1; exact absurd h1 (by decide)
    · intro e; simp at e
  · intro x hx
    rcases List.mem_append.1 hx with hx | hx
    · exact h.2 x hx
    · obtain rfl : x = r := by simpa using hx
      exact ⟨h1, h2⟩
theorem RecOk.keep {rs : List (Int × Int)} {r : Int × Int} (h : RecOk rs) (h1 : 1 ≤ r.1) (h2 : 0 ≤ r.2) : RecOk (keep rs r) := by
  unfold Go.Proofs.Ytponmblponfdaaa.keep
  split
  · exact h.snoc h1 h2
  · exact h
theorem lastR_mem {rs : List (Int × Int)} (h : rs ≠ []) : lastR rs ∈ rs := by
  rw [lastR, List.getLast?_eq_some_getLast h]
  exact List.getLast_mem h

/-- Records of what the numbers 1, 2, .. have, those without left out. -/
def recK (a : Nat → Int) : Nat → List (Int × Int)
  | 0 => []
  | k + 1 => if a k = -1 then recK a k else keep (recK a k) ((k : Int) + 1, a k)
theorem recK_succ (a : Nat → Int) (k : Nat) : recK a (k + 1) = if a k = -1 then recK a k else keep (recK a k) ((k : Int) + 1, a k) := rfl
theorem recK_none {a : Nat → Int} {k : Nat} (h : a k = -1) : recK a (k + 1) = recK a k := by rw [recK_succ, if_pos h]
theorem recK_has {a : Nat → Int} {k : Nat} (h : a k ≠ -1) : recK a (k + 1) = keep (recK a k) ((k : Int) + 1, a k) := by rw [recK_succ, if_neg h]
theorem recK_ok {a : Nat → Int} : ∀ {k : Nat}, (∀ j, j < k → -1 ≤ a j) → RecOk (recK a k) := by
  intro k
  induction k with
  | zero => intro _; exact recOk_nil
  | succ k ih =>
    intro h
    have h1 := ih (fun j hj => h j (by omega))
    have h2 := h k (Nat.lt_succ_self k)
    by_cases e : a k = -1
    · rw [recK_none e]; exact h1
    · rw [recK_has e]
      exact h1.keep (by dsimp only; omega) (by dsimp only; omega)
theorem recK_len (a : Nat → Int) (k : Nat) : (recK a k).length ≤ k := by
  induction k with
  | zero => exact Nat.le_refl _
  | succ k ih =>
    rw [recK_succ]
    split
    · omega
    · have := (keep_len (recK a k) ((k : Int) + 1, a k)).2
      omega
/-- The greatest so far, or -1. -/
def bst (rs : List (Int × Int)) : Int := if rs = [] then -1 else (lastR rs).2
theorem bst_nil : bst [] = -1 := rfl
theorem bst_snoc (rs : List (Int × Int)) (r : Int × Int) : bst (rs ++ [r]) = r.2 := by rw [bst, if_neg (by simp), lastR_snoc]
theorem keep_iff {rs : List (Int × Int)} {r : Int × Int} (h : RecOk rs) (h0 : 0 ≤ r.2) : (lastR rs = (0, 0) ∨ (lastR rs).2 < r.2) ↔ bst rs < r.2 := by
  by_cases e : rs = []
  · subst e; simp [lastR_nil, bst_nil]; omega
  · have : ¬ lastR rs = (0, 0) := fun x => e (h.1.1 x)
    rw [bst, if_neg e]
    simp [this]
theorem bst_ge {rs : List (Int × Int)} (h : RecOk rs) : -1 ≤ bst rs := by
  unfold bst
  split
  · exact Int.le_refl _
  · rename_i e
    have := (h.2 _ (lastR_mem e)).2
    omega
theorem recK_new {a : Nat → Int} {k : Nat} (h : ∀ j, j ≤ k → -1 ≤ a j) (hb : bst (recK a k) < a k) : recK a (k + 1) = recK a k ++ [((k : Int) + 1, a k)] := by
  have ho := recK_ok (a := a) (k := k) (fun j hj => h j (by omega))
  have hg := bst_ge ho
  rw [recK_has (by omega), keep_new ((keep_iff ho (by dsimp only; omega)).2 hb)]
theorem recK_old {a : Nat → Int} {k : Nat} (h : ∀ j, j ≤ k → -1 ≤ a j) (hb : ¬ bst (recK a k) < a k) : recK a (k + 1) = recK a k := by
  have ho := recK_ok (a := a) (k := k) (fun j hj => h j (by omega))
  have h1 := h k (Nat.le_refl k)
  by_cases e : a k = -1
  · exact recK_none e
  · rw [recK_has e, keep_old (fun x => hb ((keep_iff ho (by dsimp only; omega)).1 x))]
/-- The last record is the first place of the greatest, if that is not -1. -/
theorem last_far {a : Nat → Int} {F : Nat → Nat} {N : Nat} (h0 : F 0 = 0) (hs : ∀ k, F (k + 1) = if a (F k) < a (k + 1) then k + 1 else F k) (hm : ∀ j, j < N → -1 ≤ a j) :
    ∀ k, k < N → F k ≤ k ∧ bst (recK a (k + 1)) = (if a (F k) < 0 then -1 else a (F k)) ∧ lastR (recK a (k + 1)) = (if a (F k) < 0 then (0, 0) else ((F k : Int) + 1, a (F k))) := by
  intro k
  induction k with
  | zero =>
    intro hk
    have h1 := hm 0 hk
    rw [h0]
    refine ⟨Nat.le_refl _, ?_⟩
    by_cases e : a 0 < 0
    · rw [if_pos e, if_pos e, recK_none (by omega)]
      exact ⟨rfl, rfl⟩
    · rw [if_neg e, if_neg e, recK_new (fun j hj => by obtain rfl : j = 0 := by omega
                                                       exact h1) (show bst (recK a 0) < a 0 by show (-1 : Int) < a 0; omega), bst_snoc, lastR_snoc]
      exact ⟨rfl, by simp⟩
  | succ k ih =>
    intro hk
    obtain ⟨i1, i2, i3⟩ := ih (by omega)
    have h1 := hm (k + 1) hk
    have hF := hm (F k) (by omega)
    rw [hs]
    by_cases e : a (F k) < a (k + 1)
    · rw [if_pos e]
      refine ⟨Nat.le_refl _, ?_⟩
      have hn : ¬ a (k + 1) < 0 := by omega
      rw [if_neg hn, if_neg hn, recK_new (fun j hj => hm j (by omega)) (by rw [i2]; split <;> omega), bst_snoc, lastR_snoc]
      exact ⟨rfl, rfl⟩
    · rw [if_neg e]
      refine ⟨by omega, ?_⟩
      rw [recK_old (fun j hj => hm j (by omega)) (by rw [i2]; split <;> omega)]
      exact ⟨i2, i3⟩

/-- Where the run begins to which the number ahead of k belongs. -/
def fb (a : Nat → Int) : Nat → Nat
  | 0 => 0
  | k + 1 => if a k = a (fb a k) then fb a k else k
theorem fb_succ (a : Nat → Int) (k : Nat) : fb a (k + 1) = if a k = a (fb a k) then fb a k else k := rfl
theorem fb_le (a : Nat → Int) (k : Nat) : fb a k ≤ k := by
  induction k with
  | zero => exact Nat.le_refl _
  | succ k ih => rw [fb_succ]; split <;> omega
theorem fb_lt (a : Nat → Int) (k : Nat) : fb a (k + 1) ≤ k := by
  have := fb_le a k
  rw [fb_succ]
  split <;> omega
theorem fb_at (a : Nat → Int) (k : Nat) : a (fb a (k + 1)) = a k := by
  rw [fb_succ]
  split
  · rename_i h; exact h.symm
  · rfl
/-- What is kept of the runs. -/
def runK (a : Nat → Int) : Nat → List (Int × Int)
  | 0 => []
  | k + 1 => if a k = -1 then runK a k else keep (runK a k) ((fb a (k + 1) : Int) + 1, (k : Int) + 1 - (fb a (k + 1) : Int))
theorem runK_succ (a : Nat → Int) (k : Nat) : runK a (k + 1) = if a k = -1 then runK a k else keep (runK a k) ((fb a (k + 1) : Int) + 1, (k : Int) + 1 - (fb a (k + 1) : Int)) := rfl
theorem runK_none {a : Nat → Int} {k : Nat} (h : a k = -1) : runK a (k + 1) = runK a k := by rw [runK_succ, if_pos h]
theorem runK_has {a : Nat → Int} {k : Nat} (h : a k ≠ -1) : runK a (k + 1) = keep (runK a k) ((fb a (k + 1) : Int) + 1, (k : Int) + 1 - (fb a (k + 1) : Int)) := by rw [runK_succ, if_neg h]
theorem runK_ok (a : Nat → Int) (k : Nat) : RecOk (runK a k) := by
  induction k with
  | zero => exact recOk_nil
  | succ k ih =>
    rw [runK_succ]
    split
    · exact ih
    · have := fb_lt a k
      exact ih.keep (by dsimp only; omega) (by dsimp only; omega)
theorem runK_len (a : Nat → Int) (k : Nat) : (runK a k).length ≤ k := by
  induction k with
  | zero => exact Nat.le_refl _
  | succ k ih =>
    rw [runK_succ]
    split
    · omega
    · have := (keep_len (runK a k) ((fb a (k + 1) : Int) + 1, (k : Int) + 1 - (fb a (k + 1) : Int))).2
      omega
/-- How many numbers the run has so far, as the model counts. -/
def nowK (a : Nat → Int) : Nat → Nat
  | 0 => 0
  | k + 1 => if a k < 0 then 0 else if 0 < k ∧ a (k - 1) = a k then nowK a k + 1 else 1
theorem nowK_succ (a : Nat → Int) (k : Nat) : nowK a (k + 1) = if a k < 0 then 0 else if 0 < k ∧ a (k - 1) = a k then nowK a k + 1 else 1 := rfl
theorem nowK_eq (a : Nat → Int) (k : Nat) : nowK a (k + 1) = if a k < 0 then 0 else k + 1 - fb a (k + 1) := by
  induction k with
  | zero =>
    rw [nowK_succ]
    split
    · rfl
    · simp [fb]
  | succ k ih =>
    rw [nowK_succ]
    split
    · rfl
    · rename_i hneg
      have h1 := fb_at a k
      have h2 := fb_lt a k
      by_cases e : a k = a (k + 1)
      · rw [if_pos ⟨Nat.succ_pos k, e⟩, ih, if_neg (by omega), fb_succ a (k + 1), if_pos (by rw [h1, e])]
        omega
      · rw [if_neg (fun x => e x.2), fb_succ a (k + 1), if_neg (by rw [h1]; exact fun x => e x.symm)]
        omega
theorem nowK_le (a : Nat → Int) (k : Nat) : nowK a k ≤ k := by
  cases k with
  | zero => exact Nat.le_refl _
  | succ k => rw [nowK_eq]; split <;> omega
theorem lastR2 {rs : List (Int × Int)} (h : RecOk rs) : 0 ≤ (lastR rs).2 := by
  by_cases e : rs = []
  · rw [e]; exact Int.le_refl _
  · exact (h.2 _ (lastR_mem e)).2
theorem runK_big {a : Nat → Int} (k : Nat) : ∀ r ∈ runK a k, 1 ≤ r.2 := by
  induction k with
  | zero => intro r hr; cases hr
  | succ k ih =>
    rw [runK_succ]
    split
    · exact ih
    · unfold keep
      split
      · intro r hr
        rcases List.mem_append.1 hr with h | h
        · exact ih r h
        · have := fb_lt a k
          obtain rfl := List.mem_singleton.1 h
          dsimp only
          omega
      · exact ih
theorem run_more {a : Nat → Int} {k : Nat} (h : -1 ≤ a k) (hm : (lastR (runK a k)).2 < (nowK a (k + 1) : Int)) : lastR (runK a (k + 1)) = ((k : Int) + 2 - (nowK a (k + 1) : Int), (nowK a (k + 1) : Int)) := by
  have h2 := fb_lt a k
  have h3 := lastR2 (runK_ok a k)
  rw [nowK_eq] at hm ⊢
  by_cases e : a k < 0
  · rw [if_pos e] at hm; omega
  · rw [if_neg e] at hm ⊢
    rw [runK_has (by omega), keep_new (.inr (by dsimp only; omega)), lastR_snoc]
    refine Prod.ext ?_ ?_ <;> dsimp only <;> omega
theorem run_less {a : Nat → Int} {k : Nat} (h : -1 ≤ a k) (hm : ¬ (lastR (runK a k)).2 < (nowK a (k + 1) : Int)) : lastR (runK a (k + 1)) = lastR (runK a k) := by
  have h2 := fb_lt a k
  rw [nowK_eq] at hm
  by_cases e : a k < 0
  · rw [runK_none (by omega)]
  · rw [if_neg e] at hm
    have hne : ¬ (lastR (runK a k) = (0, 0) ∨ (lastR (runK a k)).2 < (k : Int) + 1 - (fb a (k + 1) : Int)) := by
      rintro (x | x)
      · rw [x] at hm; dsimp only at hm; omega
      · omega
    rw [runK_has (by omega), keep_old hne]
theorem run_any {a : Nat → Int} {k : Nat} : (lastR (runK a k) = (0, 0) ↔ ¬ 0 < (lastR (runK a k)).2) := by
  constructor
  · intro e; rw [e]; decide
  · intro e
    by_cases h : runK a k = []
    · rw [h]; rfl
    · have := runK_big (a := a) k _ (lastR_mem h); omega
end Go.Proofs.Ytponmblponfdaaa
