/-
  PLAIN MATHEMATICS OF CYCLES: the first number of a path that comes twice, and the cycle from its least number on. No Go, no program.
-/
import Derived.Test.YtponmblponfdaaaMath
namespace Go.Proofs.Ytponmblponfdaaa

/-- The first place among the first k at which the number behind k steps is. -/
def posOf (f : Int → Int) (n : Int) (k : Nat) : Option Nat := (List.range k).find? fun (i : Nat) => itr f i n == itr f k n
/-- From k steps on, r steps more at most: behind how many steps a number comes that was there, and behind how many it was. -/
def fndF (f : Int → Int) (n : Int) : Nat → Nat → Option (Nat × Nat)
  | 0, _ => none
  | r + 1, k => if numB (itr f k n) = true then (match posOf f n k with
      | some i => some (k, i)
      | none => fndF f n r (k + 1)) else none
/-- The first number that comes twice: behind how many steps again, and behind how many first. -/
def fnd (f : Int → Int) (n : Int) : Option (Nat × Nat) := fndF f n 1001 0

/-- Are the first k numbers different ones? -/
def Diff (f : Int → Int) (n : Int) (k : Nat) : Prop := ∀ i j, i < j → j < k → itr f i n ≠ itr f j n
theorem posOf_some {f : Int → Int} {n : Int} {k i : Nat} (h : posOf f n k = some i) : i < k ∧ itr f i n = itr f k n := by
  have h1 := List.find?_some h
  have h2 := List.mem_of_find?_eq_some h
  exact ⟨by simpa using h2, by simpa using h1⟩
theorem posOf_none {f : Int → Int} {n : Int} {k : Nat} (h : posOf f n k = none) : ∀ i, i < k → itr f i n ≠ itr f k n := by
  intro i hi
  have := List.find?_eq_none.1 h i (by simpa using hi)
  simpa using this
theorem posOf_of {f : Int → Int} {n : Int} {k i : Nat} (hd : Diff f n k) (hi : i < k) (he : itr f i n = itr f k n) : posOf f n k = some i := by
  cases h : posOf f n k with
  | none => exact absurd he (posOf_none h i hi)
  | some j =>
    obtain ⟨h1, h2⟩ := posOf_some h
    rcases Nat.lt_trichotomy i j with e | e | e
    · exact absurd (he.trans h2.symm) (hd i j e h1)
    · rw [e]
    · exact absurd (h2.trans he.symm) (hd j i e hi)
theorem Diff.succ {f : Int → Int} {n : Int} {k : Nat} (hd : Diff f n k) (h : posOf f n k = none) : Diff f n (k + 1) := by
  intro i j hij hj
  by_cases e : j = k
  · subst e; exact posOf_none h i hij
  · exact hd i j hij (by omega)
theorem diff_zero (f : Int → Int) (n : Int) : Diff f n 0 := fun i j h h' => by omega

theorem fndF_out {f : Int → Int} {n : Int} {r k : Nat} (h : numB (itr f k n) = false) : fndF f n r k = none := by
  cases r with
  | zero => rfl
  | succ r => rw [fndF, if_neg (by simp [h])]
theorem fndF_hit {f : Int → Int} {n : Int} {r k i : Nat} (h : numB (itr f k n) = true) (hp : posOf f n k = some i) : fndF f n (r + 1) k = some (k, i) := by
  rw [fndF, if_pos h, hp]
theorem fndF_on {f : Int → Int} {n : Int} {r k : Nat} (h : numB (itr f k n) = true) (hp : posOf f n k = none) : fndF f n (r + 1) k = fndF f n r (k + 1) := by
  rw [fndF, if_pos h, hp]

/-- What is known of the first number that comes twice. -/
structure Fnd (f : Int → Int) (n : Int) (K i : Nat) : Prop where
  lt : i < K
  le : K ≤ 1000
  eq : itr f i n = itr f K n
  all : allB f n (K + 1) = true
  diff : Diff f n K
theorem fndF_some {f : Int → Int} {n : Int} {K i : Nat} : ∀ (r k : Nat), r + k ≤ 1001 → allB f n k = true → Diff f n k → fndF f n r k = some (K, i) → Fnd f n K i := by
  intro r
  induction r with
  | zero => intro k _ _ _ h; cases h
  | succ r ih =>
    intro k hk ha hd h
    by_cases hn : numB (itr f k n) = true
    · have ha' : allB f n (k + 1) = true := by rw [allB_succ, ha, hn]; rfl
      cases hp : posOf f n k with
      | some j =>
        rw [fndF_hit hn hp] at h
        cases h
        obtain ⟨h1, h2⟩ := posOf_some hp
        exact ⟨h1, by omega, h2, ha', hd⟩
      | none =>
        rw [fndF_on hn hp] at h
        exact ih (k + 1) (by omega) ha' (hd.succ hp) h
    · rw [fndF_out (by simpa using hn)] at h; cases h
theorem fnd_some {f : Int → Int} {n : Int} {K i : Nat} (h : fnd f n = some (K, i)) : Fnd f n K i := fndF_some 1001 0 (by omega) rfl (diff_zero f n) h

theorem itr_add (f : Int → Int) (a b : Nat) (n : Int) : itr f (a + b) n = itr f b (itr f a n) := by
  induction b with
  | zero => rfl
  | succ b ih => rw [Nat.add_succ, itr_succ, ih, itr_succ]

/-- Around a cycle. -/
theorem Fnd.around {f : Int → Int} {n : Int} {K i : Nat} (h : Fnd f n K i) (a : Nat) (ha : i ≤ a) : itr f (a + (K - i)) n = itr f a n := by
  have := h.lt
  rw [show a + (K - i) = K + (a - i) by omega, itr_add, ← h.eq, ← itr_add, show i + (a - i) = a by omega]
/-- The cycle, from its j-th number on. -/
def cycFrom (f : Int → Int) (n : Int) (K i j : Nat) : List Int := (List.range (K - i)).map fun (m : Nat) => itr f m (itr f (i + j) n)
theorem cycFrom_length (f : Int → Int) (n : Int) (K i j : Nat) : (cycFrom f n K i j).length = K - i := by simp [cycFrom]
/-- The numbers of the cycle, as they come first. -/
def cycL (f : Int → Int) (n : Int) (K i : Nat) : List Int := (List.range (K - i)).map fun (m : Nat) => itr f (i + m) n
theorem cycL_length (f : Int → Int) (n : Int) (K i : Nat) : (cycL f n K i).length = K - i := by simp [cycL]
theorem cycL_mem {f : Int → Int} {n : Int} {K i : Nat} {x : Int} : x ∈ cycL f n K i ↔ ∃ j, i ≤ j ∧ j < K ∧ itr f j n = x := by
  simp only [cycL, List.mem_map, List.mem_range]
  constructor
  · rintro ⟨m, hm, rfl⟩; exact ⟨i + m, by omega, by omega, rfl⟩
  · rintro ⟨j, h1, h2, rfl⟩; exact ⟨j - i, by omega, by rw [show i + (j - i) = j by omega]⟩
theorem Fnd.nodup {f : Int → Int} {n : Int} {K i : Nat} (h : Fnd f n K i) : (cycL f n K i).Nodup := by
  unfold cycL
  refine List.pairwise_map.2 (List.Pairwise.imp_of_mem ?_ List.pairwise_lt_range)
  intro a b ha hb hab
  simp at ha hb
  exact h.diff (i + a) (i + b) (by omega) (by omega)
/-- Told from its j-th number on: what stands from there, and what stands ahead of it. -/
theorem Fnd.turn {f : Int → Int} {n : Int} {K i j : Nat} (h : Fnd f n K i) (hj : j < K - i) : (cycL f n K i).drop j ++ (cycL f n K i).take j = cycFrom f n K i j := by
  have hl := h.lt
  refine List.ext_getElem (by simp [cycL, cycFrom]; omega) fun m h1 h2 => ?_
  simp only [cycFrom_length] at h2
  simp only [cycFrom, List.getElem_map, List.getElem_range]
  rw [List.getElem_append]
  split
  · rename_i hm
    simp only [cycL, List.getElem_drop, List.getElem_map, List.getElem_range]
    rw [← itr_add, Nat.add_assoc]
  · rename_i hm
    simp only [cycL, List.length_drop, List.length_map, List.length_range, List.getElem_take, List.getElem_map, List.getElem_range] at hm ⊢
    rw [← itr_add, ← h.around (i + (m - (K - i - j))) (by omega)]
    congr 1
    omega
end Go.Proofs.Ytponmblponfdaaa
