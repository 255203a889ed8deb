/-
  THE LEAST NUMBER OF A CYCLE, AND THE CYCLE FROM IT ON. Plain mathematics.
-/
import Derived.Test.YtponmblponfdaaaOrbM
import Derived.Test.YtponmblponfdaaaFar
namespace Go.Proofs.Ytponmblponfdaaa

/-- Whatever is behind a number of a cycle is one. -/
theorem Fnd.back {f : Int → Int} {n : Int} {K i : Nat} (h : Fnd f n K i) : ∀ (c a : Nat), a ≤ c → i ≤ a → ∃ b, i ≤ b ∧ b < K ∧ itr f a n = itr f b n := by
  intro c
  induction c with
  | zero => intro a h1 h2; exact ⟨a, h2, by have := h.lt; omega, rfl⟩
  | succ c ih =>
    intro a h1 h2
    have hl := h.lt
    by_cases hK : a < K
    · exact ⟨a, h2, hK, rfl⟩
    · obtain ⟨b, b1, b2, b3⟩ := ih (a - (K - i)) (by omega) (by omega)
      refine ⟨b, b1, b2, ?_⟩
      rw [← b3, ← h.around (a - (K - i)) (by omega)]
      congr 1
      omega
theorem allB_of {f : Int → Int} {n : Int} : ∀ {k : Nat}, (∀ m, m < k → numB (itr f m n) = true) → allB f n k = true := by
  intro k
  induction k with
  | zero => intro _; rfl
  | succ k ih => intro h; rw [allB_succ, ih (fun m hm => h m (by omega)), h k (Nat.lt_succ_self k)]; rfl
theorem Fnd.num {f : Int → Int} {n : Int} {K i : Nat} (h : Fnd f n K i) {a : Nat} (ha : i ≤ a) : numB (itr f a n) = true := by
  obtain ⟨b, b1, b2, b3⟩ := h.back a a (Nat.le_refl _) ha
  rw [b3]
  exact allB_at (Nat.lt_succ_of_lt b2) h.all
theorem Fnd.allFrom {f : Int → Int} {n : Int} {K i : Nat} (h : Fnd f n K i) {a : Nat} (ha : i ≤ a) (k : Nat) : allB f (itr f a n) k = true :=
  allB_of fun m _ => by rw [← itr_add]; exact h.num (by omega)

/-- Where the least number of a cycle is in it. -/
def leastJ (f : Int → Int) (n : Int) (K i : Nat) : Nat := far false (fun j => itr f (i + j) n) (K - i - 1)
/-- The cycle from its least number on. -/
def cycT (f : Int → Int) (n : Int) (K i : Nat) : List Int := cycFrom f n K i (leastJ f n K i)
theorem leastJ_lt {f : Int → Int} {n : Int} {K i : Nat} (h : i < K) : leastJ f n K i < K - i := by
  have := far_le false (fun j => itr f (i + j) n) (K - i - 1)
  unfold leastJ
  omega
theorem cycFrom_pathL {f : Int → Int} {n : Int} {K i j : Nat} (h : i < K) : cycFrom f n K i j = pathL f (itr f (i + j) n) (K - i - 1) := by
  unfold cycFrom pathL
  rw [show K - i - 1 + 1 = K - i by omega]
/-- The least number of a list, in whichever order it is. -/
theorem best_perm {a : Nat → Int} {k : Nat} {ss : List Int} (hp : ss.Perm ((List.range (k + 1)).map a)) : best false (fun j => ss.getD j 0) (ss.length - 1) = best false a k := by
  have hl : ss.length = k + 1 := by rw [hp.length_eq]; simp
  have e : ss.length - 1 = k := by omega
  rw [e]
  have h1 := far_best false a k
  have h2 := far_best false (fun j => ss.getD j 0) k
  have l1 := far_le false a k
  have l2 := far_le false (fun j => ss.getD j 0) k
  unfold best
  obtain ⟨x, hx⟩ : ∃ x, far false a k = x := ⟨_, rfl⟩
  obtain ⟨y, hy⟩ : ∃ y, far false (fun j => ss.getD j 0) k = y := ⟨_, rfl⟩
  rw [hx] at h1 l1
  rw [hy] at h2 l2
  rw [hx, hy]
  have m1 : a x ∈ ss := hp.mem_iff.2 (List.mem_map.2 ⟨x, by simp; omega, rfl⟩)
  have m2 : ss.getD y 0 ∈ (List.range (k + 1)).map a := hp.mem_iff.1 (by
    rw [List.getD_eq_getElem?_getD, List.getElem?_eq_getElem (by omega)]
    exact List.getElem_mem _)
  obtain ⟨u, hu, hu2⟩ := List.mem_map.1 m2
  obtain ⟨z, hz, hz2⟩ := List.getElem_of_mem m1
  simp at hu
  have c1 := h1.1 u (by omega)
  have c2 := h2.1 z (by omega)
  have hz3 : ss.getD z 0 = a x := by rw [List.getD_eq_getElem?_getD, List.getElem?_eq_getElem hz, ← hz2]; rfl
  have c3 : ¬ a u < a x := by simpa [bet] using c1
  have c4 : ¬ ss.getD z 0 < ss.getD y 0 := by simpa [bet] using c2
  rw [hz3] at c4
  rw [hu2] at c3
  show ss.getD y 0 = a x
  omega

/-- Into which cycle a number comes: behind how many steps again, and behind how many first. -/
def cyA (t p n : Int) : Option (Nat × Nat) := if goodB t p = true then fnd (nx t p) n else none
/-- What CycleOf comes to. -/
def cyL (t p n : Int) : List Int := match cyA t p n with
  | some (K, i) => cycT (nx t p) n K i
  | none => []
/-- What LeadOf comes to. -/
def ldA (t p n : Int) : Int × Int := match cyA t p n with
  | some (K, i) => ((i : Int), ((K - i : Nat) : Int))
  | none => (0, 0)
theorem cyL_some {t p n : Int} {K i : Nat} (h : cyA t p n = some (K, i)) : cyL t p n = cycT (nx t p) n K i := by rw [cyL, h]
theorem cyL_none {t p n : Int} (h : cyA t p n = none) : cyL t p n = [] := by rw [cyL, h]
theorem ldA_some {t p n : Int} {K i : Nat} (h : cyA t p n = some (K, i)) : ldA t p n = ((i : Int), ((K - i : Nat) : Int)) := by rw [ldA, h]
theorem ldA_none {t p n : Int} (h : cyA t p n = none) : ldA t p n = (0, 0) := by rw [ldA, h]
theorem cyA_some {t p n : Int} {K i : Nat} (h : cyA t p n = some (K, i)) : goodB t p = true ∧ fnd (nx t p) n = some (K, i) ∧ Fnd (nx t p) n K i := by
  unfold cyA at h
  split at h
  · rename_i hg; exact ⟨hg, h, fnd_some h⟩
  · cases h
theorem cycT_length (f : Int → Int) (n : Int) (K i : Nat) : (cycT f n K i).length = K - i := cycFrom_length f n K i _
theorem cyL_len (t p n : Int) : (cyL t p n).length ≤ 1000 := by
  unfold cyL
  split
  · rename_i h
    rw [cycT_length]
    have := (cyA_some h).2.2.le
    omega
  · simp
end Go.Proofs.Ytponmblponfdaaa
