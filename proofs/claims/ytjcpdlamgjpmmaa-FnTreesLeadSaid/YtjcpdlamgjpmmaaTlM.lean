/-
  WHAT THE LAW 'TreesLead' WANTS: branches come to doubles, short levels to the root, first levels and their paths, numbers in trees. No walk.
-/
import Derived.Test.YtjcpdlamgjpmmaaLevL
import Derived.Test.YtjcpdlamgjpmmaaBranch
import Derived.Test.YtjcpdlamgjpmmaaAfter
namespace Go.Proofs.Ytjcpdlamgjpmmaa
open Go.RowKit
set_option linter.unusedVariables false

theorem itr_dblR (n : Int) (j : Nat) : itr dblF j n = n * 2 ^ j := by rw [itr_dbl, Int.mul_comm]
theorem mem_brL {t p n x : Int} : ∀ m, x ∈ brL t p n m ↔ ∃ j, j < m ∧ oddBf t p (itr dblF j n) = some x
  | 0 => by simp [brL]
  | m + 1 => by
    rw [brL, List.mem_append, mem_brL m, Option.mem_toList]
    constructor
    · rintro (⟨j, hj, h⟩ | h)
      · exact ⟨j, by omega, h⟩
      · exact ⟨m, by omega, h⟩
    · rintro ⟨j, hj, h⟩
      rcases Nat.lt_succ_iff_lt_or_eq.1 hj with h1 | rfl
      · exact .inl ⟨j, h1, h⟩
      · exact .inr h
/-- A branch. -/
structure BrF (t p n k : Int) (K : Nat) : Prop where
  k_eq : k = K
  K_le : K ≤ 20
  len : (brX t p n k).length ≤ K + 1
  dbl : ∀ j, j ≤ K → numB (n * 2 ^ j) = true
  mem : ∀ x ∈ brX t p n k, numB x = true ∧ x % 2 ≠ 0 ∧ ∃ j, j ≤ K ∧ aft t p (nx t p) x 1 = (n * 2 ^ j, true)
theorem brF {t p n k : Int} (h : brB t p n k = true) : ∃ K, BrF t p n k K := by
  have h1 := h
  simp only [brB, Bool.and_eq_true] at h1
  obtain ⟨⟨hg, hi⟩, ha⟩ := h1
  have hk : 0 ≤ k ∧ k ≤ 20 := by simpa [inB] using hi
  obtain ⟨K, rfl⟩ : ∃ K : Nat, k = K := ⟨k.toNat, by omega⟩
  rw [Int.toNat_natCast] at ha
  have hX : brX t p n K = brL t p n (K + 1) := by rw [brX, if_pos h, Int.toNat_natCast]
  have hd : ∀ j, j ≤ K → numB (n * 2 ^ j) = true := fun j hj => by
    rw [← itr_dblR]
    exact allB_at (by omega) ha
  refine ⟨K, rfl, by omega, by rw [hX]; exact brL_len t p n (K + 1), hd, fun x hx => ?_⟩
  rw [hX] at hx
  obtain ⟨j, hj, ho⟩ := (mem_brL _).1 hx
  obtain ⟨h1, h2, h3⟩ := (oddBf_iff hg).1 ho
  refine ⟨h1, h2, j, by omega, ?_⟩
  have hn : nx t p x = n * 2 ^ j := by
    rw [← itr_dblR, ← h3, nx, if_neg h2]
  rw [aft_one hg h1, hn, hd j (by omega), if_pos rfl]
/-- A level of short steps. -/
theorem shF {t p r k : Int} (h : lvB true t p r k = true) : ∃ K : Nat, k = K ∧ K ≤ 20 ∧ (lvX true t p r k).Pairwise (· < ·) ∧ ∀ x ∈ lvX true t p r k, numB x = true ∧ aft t p (sx t p) x k = (r, true) := by
  cases ho : lvO true t p r k with
  | none => rw [lvB, ho] at h; cases h
  | some xs =>
    obtain ⟨ha, hg, hr, K, rfl, hK, hl⟩ := lvO_some ho
    have hX : lvX true t p r K = xs := by rw [lvX, ho]; rfl
    refine ⟨K, rfl, hK, by rw [hX]; exact levL_lt hg hl, fun x hx => ?_⟩
    rw [hX] at hx
    obtain ⟨h1, h2⟩ := (levL_mem hg hr K xs hl x).1 hx
    have hn := levL_num hg hr hl hx
    have hask : askB t p x K = true := askB_iff.2 ⟨hg, hn, by omega, by omega⟩
    refine ⟨hn, ?_⟩
    rw [aft, if_pos ⟨hask, by rw [Int.toNat_natCast]; exact h2⟩, Int.toNat_natCast]
    rw [show itr (sx t p) K x = r from h1]
/-- The first level of a number, and its path. -/
structure FlF (t p r k n : Int) (j : Nat) : Prop where
  le : (j : Int) ≤ k
  small : j ≤ 20
  lev : lvB false t p r k = true
  num : numB n = true
  len : (ptX t p r k n).length = j + 1
  first : (ptX t p r k n).getD 0 0 = n
  last : (ptX t p r k n).getD j 0 = r
  step : ∀ i, i < j → aft t p (nx t p) ((ptX t p r k n).getD i 0) 1 = ((ptX t p r k n).getD (i + 1) 0, true) ∧ (ptX t p r k n).getD i 0 ≠ r
theorem flF {t p r k n : Int} {j : Nat} (h : flO t p r k n = some j) : FlF t p r k n j := by
  obtain ⟨hg, hn, hj20, hall⟩ := flO_path h
  have hP : ptX t p r k n = pathL (nx t p) n j := by rw [ptX, h]
  cases hB : lvB false t p r k
  · rw [flO_bad hB] at h; cases h
  · cases ho : lvO false t p r k with
    | none => rw [lvB, ho] at hB; cases hB
    | some xs =>
      obtain ⟨_, _, hr, K, rfl, hK, hl⟩ := lvO_some ho
      rw [flO, if_pos hB, Int.toNat_natCast, List.find?_range_eq_some] at h
      obtain ⟨h1, h2, hno⟩ := h
      have hj := List.mem_range.1 h2
      obtain ⟨ys, hys⟩ := levL_lower (j := j) (by omega) hl
      have hm := of_decide_eq_true h1
      rw [hys] at hm
      have hroot := (levL_mem hg hr j ys hys n).1 hm
      have hat : ∀ i, i ≤ j → (ptX t p r K n).getD i 0 = itr (nx t p) i n := fun i hi => by rw [hP, List.getD_eq_getElem?_getD, pathL_at _ _ hi]; rfl
      refine ⟨by omega, hj20, hB, hn, by rw [hP, pathL_length], by rw [hat 0 (by omega)]; rfl, by rw [hat j (Nat.le_refl _)]; exact hroot.1, fun i hi => ?_⟩
      rw [hat i (by omega), hat (i + 1) (by omega)]
      have hni : numB (itr (nx t p) i n) = true := allB_at (by omega) hall
      have hni1 : numB (itr (nx t p) (i + 1) n) = true := allB_at (by omega) hall
      refine ⟨?_, fun e => ?_⟩
      · rw [aft_one hg hni, ← itr_succ (nx t p) i n, hni1, if_pos rfl]
      · obtain ⟨zs, hzs⟩ := levL_lower (j := i) (by omega) hl
        have := (levL_mem hg hr i zs hzs n).2 ⟨e, allB_le (by omega) hall⟩
        have h3 := hno i hi
        rw [hzs] at h3
        simp [this] at h3
theorem flO_of_mem {t p r k n : Int} (hB : lvB false t p r k = true) (hm : n ∈ lvX false t p r k) : (flO t p r k n).isSome = true := by
  cases ho : lvO false t p r k with
  | none => rw [lvB, ho] at hB; cases hB
  | some xs =>
    obtain ⟨_, _, _, K, rfl, hK, hl⟩ := lvO_some ho
    rw [lvX, ho] at hm
    rw [flO, if_pos hB, Int.toNat_natCast, List.find?_isSome]
    exact ⟨K, List.mem_range.2 (by omega), by rw [hl]; exact decide_eq_true hm⟩
theorem mem_ddA {l t p r z : Int} : ∀ m, z ∈ ddA l t p r m ↔ ∃ j, j < m ∧ z ∈ (levL false t p r j).getD [] ∧ inR l z = true
  | 0 => by simp [ddA]
  | m + 1 => by
    rw [ddA, mem_ddX, mem_ddA m]
    constructor
    · rintro (⟨j, hj, h⟩ | h)
      · exact ⟨j, by omega, h⟩
      · exact ⟨m, by omega, h⟩
    · rintro ⟨j, hj, h⟩
      rcases Nat.lt_succ_iff_lt_or_eq.1 hj with h1 | rfl
      · exact .inl ⟨j, h1, h⟩
      · exact .inr h
theorem pair_lt : ∀ {xs : List Int}, xs.Pairwise (· ≤ ·) → xs.Nodup → xs.Pairwise (· < ·)
  | [], _, _ => .nil
  | x :: xs, h, hn => by
    rw [List.pairwise_cons] at h ⊢
    rw [List.nodup_cons] at hn
    refine ⟨fun y hy => ?_, pair_lt h.2 hn.2⟩
    have h1 := h.1 y hy
    have h2 : x ≠ y := fun e => hn.1 (e ▸ hy)
    omega
/-- The numbers in a tree. -/
structure ItF (t p r k l : Int) : Prop where
  l0 : 0 ≤ l
  l1 : l ≤ 1000000000000
  num : numB r = true
  len : (itX t p r k l).length ≤ 50000
  rises : (itX t p r k l).Pairwise (· < ·)
  root : decide (r ∈ itX t p r k l) = inR l r
  mem : ∀ x ∈ itX t p r k l, (flO t p r k x).isSome = true ∧ -l ≤ x ∧ x ≤ l
theorem itF {t p r k l : Int} (h : itB t p r k l = true) : ItF t p r k l := by
  have h0 := h
  simp only [itB, Bool.and_eq_true] at h0
  obtain ⟨hB, hi⟩ := h0
  have hl : 0 ≤ l ∧ l ≤ 1000000000000 := by simpa [inB] using hi
  cases ho : lvO false t p r k with
  | none => rw [lvB, ho] at hB; cases hB
  | some xs =>
    obtain ⟨_, hg, hr, K, rfl, hK, hlv⟩ := lvO_some ho
    have hX : itX t p r K l = srtI (ddA l t p r (K + 1)) := by rw [itX, if_pos h, Int.toNat_natCast]
    have hmem : ∀ x, x ∈ itX t p r K l ↔ ∃ j, j < K + 1 ∧ x ∈ (levL false t p r j).getD [] ∧ inR l x = true := fun x => by rw [hX, mem_srt, mem_ddA]
    refine ⟨hl.1, hl.2, hr, ?_, ?_, ?_, fun x hx => ?_⟩
    · rw [hX, srt_length]
      have := ddA_len l t p r (K + 1)
      omega
    · rw [hX]
      exact pair_lt (srt_sorted _) ((srt_perm _).nodup_iff.2 (ddA_nodup l t p r _))
    · rw [Bool.eq_iff_iff, decide_eq_true_eq, hmem]
      constructor
      · rintro ⟨_, _, _, h3⟩; exact h3
      · intro h3; exact ⟨0, by omega, by simp [levL], h3⟩
    · obtain ⟨j, hj, h2, h3⟩ := (hmem x).1 hx
      refine ⟨?_, by simpa [inR] using h3⟩
      rw [flO, if_pos hB, Int.toNat_natCast, List.find?_isSome]
      exact ⟨j, List.mem_range.2 hj, decide_eq_true h2⟩
end Go.Proofs.Ytjcpdlamgjpmmaa
