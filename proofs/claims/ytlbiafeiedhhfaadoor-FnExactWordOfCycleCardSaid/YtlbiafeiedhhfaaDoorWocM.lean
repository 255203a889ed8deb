/-
  THE WORD OF A CYCLE: the short steps from its least odd number come back first behind as many as the cycle has even numbers. No program.
-/
import Derived.Test.YtlbiafeiedhhfaaDoorOrbN
import Derived.Test.YtlbiafeiedhhfaaDoorWord
namespace Go.Proofs.YtlbiafeiedhhfaaDoor

/-- The odd numbers of a list. -/
def oddsC (l : List Int) : List Int := l.filter fun x => decide (x % 2 ≠ 0)
theorem mem_oddsC {l : List Int} {x : Int} : x ∈ oddsC l ↔ x ∈ l ∧ x % 2 ≠ 0 := by simp [oddsC]
def stepO (low x : Int) : Int := if x % 2 ≠ 0 ∧ (low % 2 = 0 ∨ x < low) then x else low
/-- The least odd number of a list, or its first number. -/
def lowO (l : List Int) : Int := l.foldl stepO (l.headD 0)
theorem stepO_facts (a x : Int) : (stepO a x = a ∨ stepO a x = x) ∧ (a % 2 ≠ 0 → stepO a x % 2 ≠ 0 ∧ stepO a x ≤ a) ∧ (x % 2 ≠ 0 → stepO a x % 2 ≠ 0 ∧ stepO a x ≤ x) := by
  unfold stepO
  split
  · rename_i h
    exact ⟨.inr rfl, fun ha => ⟨h.1, by omega⟩, fun hx => ⟨hx, Int.le_refl _⟩⟩
  · rename_i h
    refine ⟨.inl rfl, fun ha => ⟨ha, Int.le_refl _⟩, fun hx => ?_⟩
    have h2 : ¬ (a % 2 = 0 ∨ x < a) := fun e => h ⟨hx, e⟩
    omega
theorem foldO (l : List Int) : ∀ (a : Int), (l.foldl stepO a = a ∨ l.foldl stepO a ∈ l) ∧ (a % 2 ≠ 0 → l.foldl stepO a % 2 ≠ 0 ∧ l.foldl stepO a ≤ a) ∧ (∀ z ∈ l, z % 2 ≠ 0 → l.foldl stepO a % 2 ≠ 0 ∧ l.foldl stepO a ≤ z) := by
  induction l with
  | nil => intro a; exact ⟨.inl rfl, fun ha => ⟨ha, Int.le_refl _⟩, fun z hz => by simp at hz⟩
  | cons x l ih =>
    intro a
    obtain ⟨s1, s2, s3⟩ := stepO_facts a x
    obtain ⟨f1, f2, f3⟩ := ih (stepO a x)
    rw [List.foldl_cons]
    refine ⟨?_, fun ha => ?_, fun z hz ho => ?_⟩
    · rcases f1 with f1 | f1
      · rw [f1]
        rcases s1 with s1 | s1
        · exact .inl s1
        · exact .inr (by rw [s1]; exact List.mem_cons_self ..)
      · exact .inr (List.mem_cons_of_mem _ f1)
    · have h1 := s2 ha
      have h2 := f2 h1.1
      exact ⟨h2.1, by omega⟩
    · rcases List.mem_cons.1 hz with rfl | hz
      · have h1 := s3 ho
        have h2 := f2 h1.1
        exact ⟨h2.1, by omega⟩
      · exact f3 z hz ho
theorem lowO_mem {l : List Int} (h : l ≠ []) : lowO l ∈ l := by
  cases l with
  | nil => exact (h rfl).elim
  | cons x l =>
    rcases (foldO (x :: l) x).1 with e | e
    · show (x :: l).foldl stepO x ∈ x :: l
      rw [e]; exact List.mem_cons_self ..
    · exact e
theorem lowO_least {l : List Int} {z : Int} (h : z ∈ oddsC l) : lowO l ∈ oddsC l ∧ lowO l ≤ z := by
  obtain ⟨h1, h2⟩ := mem_oddsC.1 h
  obtain ⟨f1, f2⟩ := (foldO l (l.headD 0)).2.2 z h1 h2
  exact ⟨mem_oddsC.2 ⟨lowO_mem (fun e => by rw [e] at h1; simp at h1), f1⟩, f2⟩
theorem oddsC_snoc (l : List Int) (x : Int) : oddsC (l ++ [x]) = oddsC l ++ (if x % 2 = 0 then [] else [x]) := by
  simp only [oddsC, List.filter_append]
  congr 1
  by_cases h : x % 2 = 0
  · rw [if_pos h]; simp [h]
  · rw [if_neg h]; simp [h]
/-- The least of a list that is not empty. -/
theorem best_of {ss : List Int} {r : Int} (hr : r ∈ ss) (hl : ∀ z ∈ ss, r ≤ z) : best false (fun j => ss.getD j 0) (ss.length - 1) = r := by
  have h1 := far_best false (fun j => ss.getD j 0) (ss.length - 1)
  have l1 := far_le false (fun j => ss.getD j 0) (ss.length - 1)
  unfold best
  obtain ⟨y, hy⟩ : ∃ y, far false (fun j => ss.getD j 0) (ss.length - 1) = y := ⟨_, rfl⟩
  rw [hy] at h1 l1 ⊢
  obtain ⟨z, hz, hz2⟩ := List.getElem_of_mem hr
  have c1 := h1.1 z (by omega)
  have hz3 : ss.getD z 0 = r := by rw [List.getD_eq_getElem?_getD, List.getElem?_eq_getElem hz, ← hz2]; rfl
  have c3 : ¬ ss.getD z 0 < ss.getD y 0 := by simpa [bet] using c1
  have hm : ss.getD y 0 ∈ ss := by
    rw [List.getD_eq_getElem?_getD, List.getElem?_eq_getElem (by omega)]
    exact List.getElem_mem _
  have := hl _ hm
  show ss.getD y 0 = r
  omega

/-- How many of the first q numbers of a way are odd. -/
def odN (f : Int → Int) (x : Int) : Nat → Nat
  | 0 => 0
  | q + 1 => odN f x q + (if itr f q x % 2 = 0 then 0 else 1)
/-- Behind how many steps the k-th short step ends. -/
def posS (f : Int → Int) (x : Int) : Nat → Nat
  | 0 => 0
  | k + 1 => posS f x k + (if itr f (posS f x k) x % 2 = 0 then 1 else 2)
theorem nxOdd {t p x : Int} (hg : goodB t p = true) (h : ¬ x % 2 = 0) : nx t p x % 2 = 0 := by
  obtain ⟨_, _, g3, _, _, g6⟩ := goodB_iff.1 hg
  rw [nx, if_neg h]
  have : (t * x) % 2 = 1 := by rw [Int.mul_emod, g3]; omega
  omega
theorem sx_nx {t p x : Int} (hg : goodB t p = true) : sx t p x = if x % 2 = 0 then nx t p x else nx t p (nx t p x) := by
  by_cases h : x % 2 = 0
  · rw [if_pos h, sx, if_pos h, nx, if_pos h]
  · have h2 := nxOdd hg h
    rw [if_neg h, sx, if_neg h]
    conv => rhs; rw [nx, if_pos h2]
    rw [nx, if_neg h]
theorem itr_posS {t p : Int} (hg : goodB t p = true) (x : Int) (k : Nat) : itr (sx t p) k x = itr (nx t p) (posS (nx t p) x k) x := by
  induction k with
  | zero => rfl
  | succ k ih =>
    rw [itr_succ, ih, sx_nx hg, posS]
    split
    · rw [itr_succ]
    · rw [show posS (nx t p) x k + 2 = posS (nx t p) x k + 1 + 1 from rfl, itr_succ, itr_succ]
theorem posS_od {t p : Int} (hg : goodB t p = true) (x : Int) (k : Nat) : posS (nx t p) x k = k + odN (nx t p) x (posS (nx t p) x k) := by
  induction k with
  | zero => rfl
  | succ k ih =>
    rw [posS]
    by_cases h : itr (nx t p) (posS (nx t p) x k) x % 2 = 0
    · rw [if_pos h, odN, if_pos h]; omega
    · have h2 : itr (nx t p) (posS (nx t p) x k + 1) x % 2 = 0 := by rw [itr_succ]; exact nxOdd hg h
      rw [if_neg h, show posS (nx t p) x k + 2 = posS (nx t p) x k + 1 + 1 from rfl, odN, if_pos h2, odN, if_neg h]
      omega
theorem posS_lt (f : Int → Int) (x : Int) (k : Nat) : posS f x k < posS f x (k + 1) := by rw [posS]; split <;> omega
theorem posS_mono (f : Int → Int) (x : Int) {j k : Nat} (h : j < k) : posS f x j < posS f x k := by
  induction k with
  | zero => omega
  | succ k ih =>
    have h1 := posS_lt f x k
    by_cases e : j = k
    · subst e; exact h1
    · have := ih (by omega); omega
theorem posS_ge (f : Int → Int) (x : Int) (k : Nat) : k ≤ posS f x k := by
  induction k with
  | zero => exact Nat.le_refl _
  | succ k ih => have := posS_lt f x k; omega
/-- A way that comes back to an odd number: so do the short steps. -/
theorem posS_hit {t p : Int} (hg : goodB t p = true) {x : Int} {P : Nat} (ho : ¬ x % 2 = 0) (hP : itr (nx t p) P x = x) : ∃ k, posS (nx t p) x k = P := by
  have : ∀ q, q ≤ P → ∃ k, posS (nx t p) x k = q ∨ (posS (nx t p) x k + 1 = q ∧ ¬ itr (nx t p) (posS (nx t p) x k) x % 2 = 0) := by
    intro q
    induction q with
    | zero => intro _; exact ⟨0, .inl rfl⟩
    | succ q ih =>
      intro hq
      obtain ⟨k, h | ⟨h1, h2⟩⟩ := ih (by omega)
      · by_cases e : itr (nx t p) (posS (nx t p) x k) x % 2 = 0
        · exact ⟨k + 1, .inl (by rw [posS, if_pos e]; omega)⟩
        · exact ⟨k, .inr ⟨by omega, e⟩⟩
      · exact ⟨k + 1, .inl (by rw [posS, if_neg h2]; omega)⟩
  obtain ⟨k, h | ⟨h1, h2⟩⟩ := this P (Nat.le_refl _)
  · exact ⟨k, h⟩
  · exfalso
    have h3 : itr (nx t p) (posS (nx t p) x k + 1) x % 2 = 0 := by rw [itr_succ]; exact nxOdd hg h2
    rw [h1, hP] at h3
    exact ho h3
theorem odN_count (f : Int → Int) (x : Int) (q : Nat) : odN f x q = (oddsC ((List.range q).map fun (m : Nat) => itr f m x)).length := by
  induction q with
  | zero => rfl
  | succ q ih =>
    rw [odN, List.range_succ, List.map_append, List.map_singleton, oddsC_snoc, List.length_append, ih]
    split <;> simp
/-- A way of even numbers alone. -/
theorem evens {t p x : Int} (h : ∀ m, itr (nx t p) m x % 2 = 0) (m : Nat) : (itr (nx t p) m x).natAbs ≤ x.natAbs ∧ (0 < m → x ≠ 0 → (itr (nx t p) m x).natAbs < x.natAbs) := by
  induction m with
  | zero => exact ⟨Nat.le_refl _, fun h => by omega⟩
  | succ m ih =>
    have he := h m
    rw [itr_succ, nx, if_pos he]
    obtain ⟨i1, i2⟩ := ih
    by_cases h0 : itr (nx t p) m x = 0
    · rw [h0]; refine ⟨by simp, fun _ hx => ?_⟩
      simp; omega
    · refine ⟨by omega, fun _ hx => by omega⟩

/-- The short steps from r come back first behind E of them, and all on the way are numbers. -/
structure Woc (t p r : Int) (E : Nat) : Prop where
  pos : 1 ≤ E
  back : itr (sx t p) E r = r
  first : ∀ j, 0 < j → j < E → itr (sx t p) j r ≠ r
  num : ∀ j, numB (itr (sx t p) j r) = true

theorem woc_of {t p n : Int} {K i : Nat} (h : cyA t p n = some (K, i)) :
    Woc t p (lowO (cyL t p n)) ((cyL t p n).length - (oddsC (cyL t p n)).length) ∧ (oddsC (cyL t p n) = [] → lowO (cyL t p n) = 0 ∧ (cyL t p n).length = 1) := by
  obtain ⟨hg, _, hF⟩ := cyA_some h
  have hlt := hF.lt
  have hlen : (cyL t p n).length = K - i := by rw [cyL_some h, cycT_length]
  have hperm : ∀ j, j < K - i → (cycFrom (nx t p) n K i j).Perm (cycL (nx t p) n K i) := fun j hj => by
    rw [← hF.turn hj]
    exact List.perm_append_comm.trans (by rw [List.take_append_drop])
  have hC : (cyL t p n).Perm (cycL (nx t p) n K i) := by rw [cyL_some h]; exact hperm _ (leastJ_lt hlt)
  have hr : lowO (cyL t p n) ∈ cyL t p n := lowO_mem (fun e => by rw [e] at hlen; simp at hlen; omega)
  obtain ⟨j0, j1, j2, hj⟩ := cycL_mem.1 (hC.mem_iff.1 hr)
  generalize hC2 : cyL t p n = C at *
  generalize hr2 : lowO C = r at *
  have hP : itr (nx t p) (K - i) r = r := by
    rw [← hj, ← itr_add, hF.around j0 j1]
  have hnum : ∀ m, numB (itr (nx t p) m r) = true := fun m => by rw [← hj, ← itr_add]; exact hF.num (by omega)
  have horb : cycFrom (nx t p) n K i (j0 - i) = (List.range (K - i)).map fun (m : Nat) => itr (nx t p) m r := by
    unfold cycFrom
    rw [show i + (j0 - i) = j0 by omega, hj]
  have hpo := (hperm (j0 - i) (by omega)).trans hC.symm
  rw [horb] at hpo
  have hodl : (oddsC C).length = odN (nx t p) r (K - i) := by
    rw [odN_count]
    exact (hpo.filter _).length_eq.symm
  have hnd : ∀ m, 0 < m → m < K - i → itr (nx t p) m r ≠ r := by
    intro m m0 m1 e
    have hn2 : ((List.range (K - i)).map fun (m : Nat) => itr (nx t p) m r).Nodup := hpo.nodup_iff.2 (hC.nodup_iff.2 hF.nodup)
    have := List.pairwise_iff_getElem.1 hn2 0 m (by simp; omega) (by simp; omega) m0
    simp [itr, e] at this
  have hmem : ∀ m, itr (nx t p) m r ∈ C := by
    intro m
    obtain ⟨b, b1, b2, b3⟩ := hF.back (j0 + m) (j0 + m) (Nat.le_refl _) (by omega)
    refine hC.mem_iff.2 (cycL_mem.2 ⟨b, b1, b2, ?_⟩)
    rw [← hj, ← itr_add, b3]
  by_cases hod : oddsC C = []
  · have hev : ∀ m, itr (nx t p) m r % 2 = 0 := fun m => by
      by_cases e : itr (nx t p) m r % 2 = 0
      · exact e
      · have := mem_oddsC.2 ⟨hmem m, e⟩
        rw [hod] at this
        simp at this
    have hr0 : r = 0 := by
      by_cases e : r = 0
      · exact e
      · have := (evens hev (K - i)).2 (by omega) e
        rw [hP] at this
        omega
    have hP1 : K - i = 1 := by
      by_cases e : K - i = 1
      · exact e
      · exact absurd (by rw [hr0]; rfl) (hnd 1 (by omega) (by omega))
    have hz : ∀ j, itr (sx t p) j 0 = 0 := fun j => by
      induction j with
      | zero => rfl
      | succ j ih => rw [itr_succ, ih]; rfl
    rw [hod, hlen, hP1, hr0]
    exact ⟨⟨Nat.le_refl _, hz _, fun j a b => by simp at b; omega, fun j => by rw [hz j]; rfl⟩, fun _ => ⟨rfl, rfl⟩⟩
  · obtain ⟨z, hz⟩ := List.exists_mem_of_ne_nil _ hod
    have hro : ¬ r % 2 = 0 := by have := (mem_oddsC.1 (lowO_least hz).1).2; rw [hr2] at this; exact this
    obtain ⟨k, hk⟩ := posS_hit hg hro hP
    have hk2 := posS_od hg r k
    rw [hk] at hk2
    have hE : C.length - (oddsC C).length = k := by rw [hlen, hodl]; omega
    rw [hE]
    refine ⟨⟨?_, ?_, fun j a b => ?_, fun j => ?_⟩, fun e => (hod e).elim⟩
    · rcases Nat.eq_zero_or_pos k with e | e
      · subst e; change 0 = K - i at hk; omega
      · exact e
    · rw [itr_posS hg, hk, hP]
    · rw [itr_posS hg]
      have h1 := posS_mono (nx t p) r b
      have h2 := posS_ge (nx t p) r j
      exact hnd _ (by omega) (by omega)
    · rw [itr_posS hg]; exact hnum _
end Go.Proofs.YtlbiafeiedhhfaaDoor
