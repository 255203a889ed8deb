/-
  THE MATHEMATICS OF 'RecordsFirst': records, sums, runs, falls.
-/
import Derived.Test.YtknlnbkfpfjkbaaRecN
import Derived.Test.YtknlnbkfpfjkbaaMean
import Derived.Test.YtknlnbkfpfjkbaaWith
import Derived.Test.YtknlnbkfpfjkbaaRun
import Derived.Test.YtknlnbkfpfjkbaaPeak5
namespace Go.Proofs.Ytknlnbkfpfjkbaa
set_option linter.unusedVariables false

theorem keep_prefix (rs : List (Int × Int)) (r : Int × Int) : rs <+: keep rs r := by
  unfold keep
  split
  · exact List.prefix_append _ _
  · exact List.prefix_refl _
theorem recK_prefix (a : Nat → Int) {i k : Nat} (h : i ≤ k) : recK a i <+: recK a k := by
  induction k with
  | zero => obtain rfl : i = 0 := by omega
            exact List.prefix_refl _
  | succ k ih =>
    by_cases e : i = k + 1
    · subst e; exact List.prefix_refl _
    · refine (ih (by omega)).trans ?_
      rw [recK_succ]
      split
      · exact List.prefix_refl _
      · exact keep_prefix _ _
/-- A record that is kept at i stands where as many stand ahead of it. -/
theorem rec_at {a : Nat → Int} {i K : Nat} (hm : ∀ j, j < K → -1 ≤ a j) (hi : i < K) (hb : bst (recK a i) < a i) : (recK a i).length < (recK a K).length ∧ (recK a K).getD (recK a i).length (0, 0) = ((i : Int) + 1, a i) := by
  have hp := recK_prefix a (i := i + 1) (k := K) hi
  rw [recK_new (fun j hj => hm j (by omega)) hb] at hp
  obtain ⟨r, hr⟩ := hp
  rw [← hr]
  refine ⟨by simp, ?_⟩
  rw [List.getD_eq_getElem?_getD, List.append_assoc, List.getElem?_append_right (Nat.le_refl _)]
  simp
theorem recK_len_new {a : Nat → Int} {i K : Nat} (hm : ∀ j, j < K → -1 ≤ a j) (hi : i < K) (hb : bst (recK a i) < a i) : (recK a (i + 1)).length = (recK a i).length + 1 ∧ bst (recK a (i + 1)) = a i := by
  rw [recK_new (fun j hj => hm j (by omega)) hb, bst_snoc]
  exact ⟨by simp, rfl⟩
theorem recK_len_old {a : Nat → Int} {i K : Nat} (hm : ∀ j, j < K → -1 ≤ a j) (hi : i < K) (hb : ¬ bst (recK a i) < a i) : recK a (i + 1) = recK a i := recK_old (fun j hj => hm j (by omega)) hb
theorem recK_nil {a : Nat → Int} : ∀ {K : Nat}, (∀ j, j < K → -1 ≤ a j) → (recK a K = [] ↔ ∀ j, j < K → a j = -1) := by
  intro K
  induction K with
  | zero => intro _; exact ⟨fun _ j hj => by omega, fun _ => rfl⟩
  | succ K ih =>
    intro hm
    have ih' := ih (fun j hj => hm j (by omega))
    by_cases e : a K = -1
    · rw [recK_none e, ih']
      exact ⟨fun h j hj => by by_cases x : j = K; · (subst x; exact e)
                              · exact h j (by omega), fun h j hj => h j (by omega)⟩
    · constructor
      · intro h
        have := keep_len (recK a K) ((K : Int) + 1, a K)
        rw [recK_has e] at h
        unfold keep at h
        split at h
        · simp at h
        · rename_i hk
          exact absurd (by rw [h]; exact .inl rfl) hk
      · intro h; exact absurd (h K (Nat.lt_succ_self K)) e
theorem anyR_iff {rs : List (Int × Int)} (h : RecOk rs) : anyR rs = true ↔ 0 < rs.length := by
  unfold anyR
  rw [decide_eq_true_eq]
  constructor
  · intro x
    exact Nat.pos_of_ne_zero (fun e => x (h.1.2 (List.eq_nil_of_length_eq_zero e)))
  · intro x e
    rw [h.1.1 e] at x
    cases x
theorem cntK_zero {f : Nat → Int} : ∀ {K : Nat}, cntK f K = 0 ↔ ∀ j, j < K → f j = -1 := by
  intro K
  induction K with
  | zero => exact ⟨fun _ j hj => by omega, fun _ => rfl⟩
  | succ K ih =>
    rw [cntK]
    by_cases e : f K = -1
    · rw [if_pos e, ih]
      exact ⟨fun h j hj => by by_cases x : j = K; · (subst x; exact e)
                              · exact h j (by omega), fun h j hj => h j (by omega)⟩
    · rw [if_neg e]
      exact ⟨fun h => by omega, fun h => absurd (h K (Nat.lt_succ_self K)) e⟩
theorem runK_nil {a : Nat → Int} : ∀ {K : Nat}, runK a K = [] ↔ ∀ j, j < K → a j = -1 := by
  intro K
  induction K with
  | zero => exact ⟨fun _ j hj => by omega, fun _ => rfl⟩
  | succ K ih =>
    by_cases e : a K = -1
    · rw [runK_none e, ih]
      exact ⟨fun h j hj => by by_cases x : j = K; · (subst x; exact e)
                              · exact h j (by omega), fun h j hj => h j (by omega)⟩
    · constructor
      · intro h
        rw [runK_has e] at h
        unfold keep at h
        split at h
        · simp at h
        · rename_i hk
          exact absurd (by rw [h]; exact .inl rfl) hk
      · intro h; exact absurd (h K (Nat.lt_succ_self K)) e
/-- From where a run begins, all need the same. -/
theorem fb_same (a : Nat → Int) : ∀ (k j : Nat), fb a (k + 1) ≤ j → j ≤ k → a j = a k := by
  intro k
  induction k with
  | zero => intro j _ h2; obtain rfl : j = 0 := by omega
            rfl
  | succ k ih =>
    intro j h1 h2
    by_cases e : j = k + 1
    · subst e; rfl
    · have h3 := fb_at a k
      rw [fb_succ] at h1
      split at h1
      · rename_i hs
        rw [hs, h3]
        exact ih j h1 (by omega)
      · omega
/-- The longest run lies in the list, and its numbers need the same. -/
theorem runs_lie (a : Nat → Int) : ∀ (K : Nat), ∀ r ∈ runK a K, ∃ u v : Nat, r = ((u : Int) + 1, (v : Int) + 1) ∧ u + v < K ∧ a u ≠ -1 ∧ ∀ j, u ≤ j → j ≤ u + v → a j = a u := by
  intro K
  induction K with
  | zero => intro r hr; cases hr
  | succ K ih =>
    intro r hr
    by_cases e : a K = -1
    · rw [runK_none e] at hr
      obtain ⟨u, v, h1, h2, h3, h4⟩ := ih r hr
      exact ⟨u, v, h1, by omega, h3, h4⟩
    · rw [runK_has e] at hr
      unfold keep at hr
      split at hr
      · rcases List.mem_append.1 hr with hr | hr
        · obtain ⟨u, v, h1, h2, h3, h4⟩ := ih r hr
          exact ⟨u, v, h1, by omega, h3, h4⟩
        · obtain rfl := List.mem_singleton.1 hr
          have hf := fb_lt a K
          have hat := fb_at a K
          refine ⟨fb a (K + 1), K - fb a (K + 1), ?_, by omega, by rw [hat]; exact e, fun j h1 h2 => ?_⟩
          · refine Prod.ext rfl ?_
            dsimp only
            omega
          · rw [fb_same a K j h1 (by omega), hat]
      · obtain ⟨u, v, h1, h2, h3, h4⟩ := ih r hr
        exact ⟨u, v, h1, by omega, h3, h4⟩
/-- The mean in lowest terms is the mean. -/
theorem mean_eq (s c : Int) (h : 0 < c) : s * (lowT s c).2 = (lowT s c).1 * c := by
  rw [lowT, if_neg (by omega)]
  dsimp only
  have h1 : (Int.gcd s c : Int) ∣ s := Int.gcd_dvd_left ..
  have h2 : (Int.gcd s c : Int) ∣ c := Int.gcd_dvd_right ..
  obtain ⟨x, hx⟩ := h1
  obtain ⟨y, hy⟩ := h2
  have hg : ((Int.gcd s c : Nat) : Int) ≠ 0 := by
    have := gcd_pos (a := s) (b := c) (by omega)
    omega
  generalize ((Int.gcd s c : Nat) : Int) = g at *
  rw [hx, hy, Int.mul_tdiv_cancel_left _ hg, Int.mul_tdiv_cancel_left _ hg, Int.mul_comm g x, Int.mul_assoc]
/-- Which numbers need just so much. -/
theorem mem_withK {f : Nat → Int} {s : Int} : ∀ {K i : Nat}, i < K → (((i : Int) + 1) ∈ withK f s K ↔ f i = s) := by
  intro K
  have hle : ∀ K, ∀ x ∈ withK f s K, x ≤ (K : Int) := by
    intro K
    induction K with
    | zero => intro x hx; cases hx
    | succ K ih =>
      intro x hx
      rw [withK] at hx
      split at hx
      · rcases List.mem_append.1 hx with hx | hx
        · have := ih x hx; omega
        · obtain rfl := List.mem_singleton.1 hx; omega
      · have := ih x hx; omega
  induction K with
  | zero => intro i hi; omega
  | succ K ih =>
    intro i hi
    by_cases e : i = K
    · subst e
      rw [withK]
      by_cases hs : f i = s
      · rw [if_pos hs]; simp [hs]
      · rw [if_neg hs]
        exact ⟨fun h => by have := hle i _ h; omega, fun h => absurd h hs⟩
    · have hne : ((i : Int) + 1) ≠ (K : Int) + 1 := by omega
      rw [withK, ← ih (show i < K by omega)]
      split
      · simp [hne]
      · rfl
/-- The last record is greater than all ahead of it and at least all behind. -/
theorem last_best {a : Nat → Int} {K : Nat} (h0 : 0 < K) (hm : ∀ j, j < K → -1 ≤ a j) {u v : Int} (h : lastR (recK a K) = (u, v)) (hne : anyR (recK a K) = true) : ∀ i, i < K → a i ≤ v ∧ (a i = v → u ≤ (i : Int) + 1) := by
  obtain ⟨k, rfl⟩ : ∃ k, K = k + 1 := ⟨K - 1, by omega⟩
  obtain ⟨_, _, h3⟩ := last_far (a := a) (F := far true a) (N := k + 1) rfl (far_true_step a) hm k (by omega)
  obtain ⟨b1, b2⟩ := far_best true a k
  by_cases hneg : a (far true a k) < 0
  · rw [if_pos hneg] at h3
    unfold anyR at hne
    rw [decide_eq_true_eq] at hne
    exact absurd h3 hne
  · rw [if_neg hneg, h] at h3
    injection h3 with h4 h5
    intro i hi
    have c1 := b1 i (by omega)
    simp only [bet, if_true, decide_eq_false_iff_not] at c1
    refine ⟨by omega, fun e => ?_⟩
    by_cases hlt : i < far true a k
    · have c2 := b2 i hlt
      simp only [bet, if_true, decide_eq_true_eq] at c2
      omega
    · omega
theorem peak_none_iff {t p n : Int} (h : 1 ≤ n) : peakN t p n = -1 ↔ cyA t p n = none := by
  constructor
  · intro e
    cases ho : cyA t p n with
    | none => rfl
    | some x =>
      obtain ⟨K, i⟩ := x
      have := best_ge (fun j => itr (nx t p) j n) K (j := 0) (Nat.zero_le _)
      rw [← peakN_some ho, e] at this
      simp only [itr] at this
      omega
  · exact peakN_none
end Go.Proofs.Ytknlnbkfpfjkbaa
