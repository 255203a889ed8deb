/-
  THE MATHEMATICS OF 'PathsMeet': paths that merge come into one cycle; records rise.
-/
import Derived.Test.YtjcpdlamgjpmmaePeak5
namespace Go.Proofs.Ytjcpdlamgjpmmae
set_option linter.unusedVariables false

/-- Far behind, a number of a cycle comes again. -/
theorem Fnd.ahead {f : Int → Int} {n : Int} {K i : Nat} (h : Fnd f n K i) (M : Nat) : ∀ {j : Nat}, i ≤ j → ∃ N, M ≤ N ∧ itr f N n = itr f j n := by
  have hl := h.lt
  induction M with
  | zero => intro j _; exact ⟨j, Nat.zero_le _, rfl⟩
  | succ M ih =>
    intro j hj
    obtain ⟨N, h1, h2⟩ := ih (j := j + (K - i)) (by omega)
    by_cases e : M + 1 ≤ N
    · exact ⟨N, e, h2.trans (h.around j hj)⟩
    · obtain rfl : N = M := by omega
      by_cases hN : i ≤ N
      · exact ⟨N + (K - i), by omega, (h.around N hN).trans (h2.trans (h.around j hj))⟩
      · exact ⟨j + (K - i), by omega, h.around j hj⟩
theorem cyc_sub {f : Int → Int} {a b : Int} {K i L l u v : Nat} (hA : Fnd f a K i) (hB : Fnd f b L l) (he : itr f u a = itr f v b) {x : Int} (hx : x ∈ cycL f a K i) : x ∈ cycL f b L l := by
  obtain ⟨j, h1, h2, rfl⟩ := cycL_mem.1 hx
  obtain ⟨N, hN1, hN2⟩ := hA.ahead (u + l) h1
  have e1 : itr f N a = itr f (v + (N - u)) b := by
    rw [show N = u + (N - u) by omega, itr_add, he, ← itr_add]
    congr 1
    omega
  obtain ⟨c, c1, c2, c3⟩ := hB.back (v + (N - u)) (v + (N - u)) (Nat.le_refl _) (by omega)
  exact cycL_mem.2 ⟨c, c1, c2, by rw [← c3, ← e1, hN2]⟩
/-- The least number of a cycle. -/
theorem least_mem {f : Int → Int} {n : Int} {K i : Nat} (h : Fnd f n K i) : itr f (i + leastJ f n K i) n ∈ cycL f n K i := by
  have := leastJ_lt (f := f) (n := n) h.lt
  exact cycL_mem.2 ⟨i + leastJ f n K i, by omega, by omega, rfl⟩
theorem least_le {f : Int → Int} {n : Int} {K i : Nat} (h : Fnd f n K i) {x : Int} (hx : x ∈ cycL f n K i) : itr f (i + leastJ f n K i) n ≤ x := by
  obtain ⟨j, h1, h2, rfl⟩ := cycL_mem.1 hx
  have := (far_best false (fun j => itr f (i + j) n) (K - i - 1)).1 (j - i) (by omega)
  simp only [bet, Bool.false_eq_true, if_false, decide_eq_false_iff_not, show i + (j - i) = j by omega] at this
  unfold leastJ
  omega
/-- Paths that have a number in common come into one cycle. -/
theorem cyL_meet {t p a b : Int} {K i L l u v : Nat} (ha : cyA t p a = some (K, i)) (hb : cyA t p b = some (L, l)) (he : itr (nx t p) u a = itr (nx t p) v b) : cyL t p a = cyL t p b := by
  have hA := (cyA_some ha).2.2
  have hB := (cyA_some hb).2.2
  have hmem : ∀ x, x ∈ cycL (nx t p) a K i ↔ x ∈ cycL (nx t p) b L l := fun x => ⟨cyc_sub hA hB he, cyc_sub hB hA he.symm⟩
  have hlen := ((List.perm_ext_iff_of_nodup hA.nodup hB.nodup).2 hmem).length_eq
  rw [cycL_length, cycL_length] at hlen
  have hl : itr (nx t p) (i + leastJ (nx t p) a K i) a = itr (nx t p) (l + leastJ (nx t p) b L l) b := by
    have h1 := least_le hA ((hmem _).2 (least_mem hB))
    have h2 := least_le hB ((hmem _).1 (least_mem hA))
    omega
  rw [cyL_some ha, cyL_some hb, cycT, cycT, cycFrom, cycFrom, hl, hlen]
/-- What is known of two numbers whose paths merge. -/
structure Meet (t p a b : Int) (i k : Nat) (n : Int) : Prop where
  at_a : aft t p (nx t p) a (i : Int) = (n, true)
  at_b : aft t p (nx t p) b (k : Int) = (n, true)
  cyc : cyL t p a = cyL t p b
  okA : (cyA t p a).isSome = true
  okB : (cyA t p b).isSome = true
  same : a = b → i = 0 ∧ k = 0
  back : ∃ k' i', mgA t p b a = some (k', i') ∧ (sto t p a (itr (nx t p) k' b)).2 = true ∧ 0 ≤ (sto t p a (itr (nx t p) k' b)).1
  first : 0 < i → 0 < k → ∃ e f, aft t p (nx t p) a ((i : Int) - 1) = (e, true) ∧ aft t p (nx t p) b ((k : Int) - 1) = (f, true) ∧ e ≠ f
  small : i ≤ 1000 ∧ k ≤ 1000
  pm : pmA t p a b = (n, true)
  ms : msA t p a b = ((i : Int), (k : Int), true)
theorem mgR_eq {x y : Nat → Int} {K : Nat} {r : Nat × Nat} : ∀ {n : Nat}, mgR x y K n = some r → x r.1 = y r.2 ∧ ∀ m, m < r.1 → pos2 y K (x m) = none := by
  intro n
  induction n with
  | zero => intro h; cases h
  | succ n ih =>
    intro h
    cases hn : mgR x y K n with
    | some s => rw [mgR, hn] at h; cases h; exact ih hn
    | none =>
      cases hp : pos2 y K (x n) with
      | some k => rw [mgR_hit hn hp] at h; cases h; exact ⟨(pos2_some hp).2.symm, mgR_pos hn⟩
      | none => rw [mgR_on hn hp] at h; cases h
theorem mgR_any {x y : Nat → Int} {K n i k : Nat} (hi : i < n) (hk : k < K) (he : x i = y k) : ∃ r, mgR x y K n = some r := by
  cases h : mgR x y K n with
  | some r => exact ⟨r, rfl⟩
  | none => exact absurd he.symm (pos2_none (mgR_pos h i hi) k hk)
theorem sto_on {t p n : Int} {K i : Nat} (h : cyA t p n = some (K, i)) {k : Nat} (hk : k < K) : (sto t p n (itr (nx t p) k n)).2 = true ∧ 0 ≤ (sto t p n (itr (nx t p) k n)).1 := by
  obtain ⟨hg, _, hF⟩ := cyA_some h
  have hle := hF.le
  have e : sto t p n (itr (nx t p) k n) = ((k : Int), true) := by
    refine hit_some (pre := upto (nx t p) n k) (x := ((k : Int), itr (nx t p) k n)) ?_ (by simp) ?_
    · intro y hy
      obtain ⟨j, hj, rfl⟩ := mem_upto hy
      simpa using hF.diff j k hj hk
    · rw [← upto_succ, seqOf, if_pos hg]
      exact upto_prefix _ _ ((lt_cnt _ _ _ _).2 ⟨by omega, allB_le (by omega) hF.all⟩)
  rw [e]
  exact ⟨rfl, by dsimp only; omega⟩
theorem meet_of {t p a b : Int} {i k : Nat} (h : mgA t p a b = some (i, k)) : ∃ n, Meet t p a b i k n := by
  cases ha : cyA t p a with
  | none => rw [mgA_left ha] at h; cases h
  | some s =>
    obtain ⟨K, i0⟩ := s
    cases hb : cyA t p b with
    | none => rw [mgA_right hb] at h; cases h
    | some s =>
      obtain ⟨L, l0⟩ := s
      have h0 := h
      rw [mgA_some ha hb] at h
      obtain ⟨h1, h2⟩ := mgR_lt h
      obtain ⟨h3, h4⟩ := mgR_eq h
      dsimp only at h1 h2 h3 h4
      have hA := (cyA_some ha).2.2
      have hB := (cyA_some hb).2.2
      have hKle := hA.le
      have hLle := hB.le
      refine ⟨itr (nx t p) i a, aft_fnd ha (by omega), ?_, cyL_meet ha hb h3, by rw [ha]; rfl, by rw [hb]; rfl, ?_, ?_, ?_, by omega, pmA_some h0, msA_some h0⟩
      · rw [aft_fnd hb (by omega), h3]
      · rintro rfl
        rw [ha] at hb
        cases hb
        have hK0 := hA.lt
        have hp : pos2 (fun j => itr (nx t p) j a) K (itr (nx t p) 0 a) = some 0 := pos2_of (by omega) rfl (fun m hm => by omega)
        have hm : mgR (fun j => itr (nx t p) j a) (fun j => itr (nx t p) j a) K 1 = some (0, 0) := mgR_hit (n := 0) rfl hp
        have := (mgR_lift (m := K) (by omega) hm).symm.trans h
        cases this
        exact ⟨rfl, rfl⟩
      · obtain ⟨r, hr⟩ := mgR_any (x := fun j => itr (nx t p) j b) (y := fun j => itr (nx t p) j a) (K := K) (n := L) h2 h1 h3.symm
        obtain ⟨k', i'⟩ := r
        have hr2 := (mgR_lt hr).2
        have hr3 := (mgR_eq hr).1
        dsimp only at hr2 hr3
        refine ⟨k', i', by rw [mgA_some hb ha]; exact hr, ?_⟩
        rw [hr3]
        exact sto_on ha hr2
      · intro hi hk
        refine ⟨itr (nx t p) (i - 1) a, itr (nx t p) (k - 1) b, ?_, ?_, ?_⟩
        · have := aft_fnd ha (j := i - 1) (by omega)
          rwa [show ((i - 1 : Nat) : Int) = (i : Int) - 1 by omega] at this
        · have := aft_fnd hb (j := k - 1) (by omega)
          rwa [show ((k - 1 : Nat) : Int) = (k : Int) - 1 by omega] at this
        · intro e
          exact pos2_none (h4 (i - 1) (by omega)) (k - 1) (by omega) e.symm

/-- Records rise, and each is one that the number has. -/
theorem recK_rises {a : Nat → Int} : ∀ {k : Nat}, (∀ j, j < k → -1 ≤ a j) → (recK a k).Pairwise (fun r s => r.1 < s.1 ∧ r.2 < s.2) ∧ ∀ r ∈ recK a k, ∃ j, j < k ∧ r = ((j : Int) + 1, a j) ∧ a j ≠ -1 ∧ r.2 ≤ bst (recK a k) := by
  intro k
  induction k with
  | zero => intro _; exact ⟨List.Pairwise.nil, by simp [recK]⟩
  | succ k ih =>
    intro h
    obtain ⟨i1, i2⟩ := ih (fun j hj => h j (by omega))
    have hb := bst_ge (recK_ok (a := a) (k := k) (fun j hj => h j (by omega)))
    by_cases hn : bst (recK a k) < a k
    · rw [recK_new (fun j hj => h j (by omega)) hn]
      refine ⟨?_, ?_⟩
      · rw [List.pairwise_append]
        refine ⟨i1, List.pairwise_singleton _ _, fun r hr s hs => ?_⟩
        obtain rfl := List.mem_singleton.1 hs
        obtain ⟨j, hj, rfl, _, h2⟩ := i2 r hr
        dsimp only at h2 ⊢
        omega
      · intro r hr
        rw [bst_snoc]
        rcases List.mem_append.1 hr with hr | hr
        · obtain ⟨j, hj, e, h1, h2⟩ := i2 r hr
          exact ⟨j, by omega, e, h1, by dsimp only; omega⟩
        · obtain rfl := List.mem_singleton.1 hr
          exact ⟨k, by omega, rfl, by omega, Int.le_refl _⟩
    · rw [recK_old (fun j hj => h j (by omega)) hn]
      refine ⟨i1, fun r hr => ?_⟩
      obtain ⟨j, hj, e, h1, h2⟩ := i2 r hr
      exact ⟨j, by omega, e, h1, h2⟩
theorem peak_ge {t p n : Int} (h : peakN t p n ≠ -1) : n ≤ peakN t p n := by
  cases ho : cyA t p n with
  | none => exact absurd (peakN_none ho) h
  | some x =>
    obtain ⟨K, i⟩ := x
    rw [peakN_some ho]
    exact best_ge (fun j => itr (nx t p) j n) K (j := 0) (Nat.zero_le _)
/-- Records of peaks: each is at least its number, and they rise. -/
theorem peaks_rise (t p k : Int) : (∀ j, j < (rcL (tabA peakN t p k)).length → ((rcL (tabA peakN t p k)).getD j (0, 0)).1 ≤ ((rcL (tabA peakN t p k)).getD j (0, 0)).2) ∧
    ∀ j, j + 1 < (rcL (tabA peakN t p k)).length → ((rcL (tabA peakN t p k)).getD j (0, 0)).1 < ((rcL (tabA peakN t p k)).getD (j + 1) (0, 0)).1 ∧ ((rcL (tabA peakN t p k)).getD j (0, 0)).2 < ((rcL (tabA peakN t p k)).getD (j + 1) (0, 0)).2 := by
  have hB := bnd_peak t p k
  obtain ⟨h1, h2⟩ := recK_rises (a := atL (tabA peakN t p k)) (k := (tabA peakN t p k).length) (fun j hj => (hB j hj).1)
  change (rcL (tabA peakN t p k)).Pairwise _ at h1
  change ∀ r ∈ rcL (tabA peakN t p k), _ at h2
  refine ⟨fun j hj => ?_, fun j hj => ?_⟩
  · have hm : (rcL (tabA peakN t p k)).getD j (0, 0) ∈ rcL (tabA peakN t p k) := by
      rw [List.getD_eq_getElem?_getD, List.getElem?_eq_getElem hj]
      exact List.getElem_mem hj
    obtain ⟨m, hm1, e, hm2, _⟩ := h2 _ hm
    rw [e]
    dsimp only
    cases ha : askL t p k
    · rw [tabA_no ha] at hm1; cases hm1
    · obtain ⟨K, rfl, _, hK, hg⟩ := askL_yes ha
      rw [tabA_yes ha, tabL_length] at hm1
      unfold atL at hm2 ⊢
      rw [tabA_yes ha, tabL_at hm1] at hm2 ⊢
      exact peak_ge hm2
  · have := List.pairwise_iff_getElem.1 h1 j (j + 1) (by omega) hj (Nat.lt_succ_self j)
    rw [List.getD_eq_getElem?_getD, List.getD_eq_getElem?_getD, List.getElem?_eq_getElem hj, List.getElem?_eq_getElem (show j < (rcL (tabA peakN t p k)).length by omega)]
    exact this
end Go.Proofs.Ytjcpdlamgjpmmae
