/-
  TREES: how the program tells the odd number before a number; barren numbers; levels of different numbers, in order. No program.
-/
import Derived.Test.YtbhmplccjaijjaaTreeM
namespace Go.Proofs.Ytbhmplccjaijjaa

/-- Does an odd number come to n? -/
def comesP (t p n : Int) : Bool := decide (n % 2 = 0 ∧ (n - p).tmod t = 0)
/-- The odd number before n as the program tells it; a number too great where there is none. -/
def oddP (t p n : Int) : Int := if comesP t p n = true then (n - p).tdiv t else 1000000000001
theorem oddBf_oddP {t p n : Int} (hg : goodB t p = true) : oddBf t p n = if numB (oddP t p n) = true then some (oddP t p n) else none := by
  obtain ⟨g1, _, g3, _, _, g6⟩ := goodB_iff.1 hg
  by_cases hc : comesP t p n = true
  · have e : oddP t p n = (n - p).tdiv t := by rw [oddP, if_pos hc]
    obtain ⟨h1, h2⟩ : n % 2 = 0 ∧ (n - p).tmod t = 0 := by simpa [comesP] using hc
    obtain ⟨q, hq⟩ : ∃ q, (n - p).tdiv t = q := ⟨_, rfl⟩
    have h3 : t * q + p = n := by
      have := Int.mul_tdiv_add_tmod (n - p) t
      rw [h2, hq] at this
      omega
    have h4 : q % 2 ≠ 0 := by
      intro h
      have : (t * q) % 2 = 0 := by rw [Int.mul_emod, h]; simp
      omega
    rw [e, hq]
    by_cases hn : numB q = true
    · rw [if_pos hn, oddBf_iff hg]
      exact ⟨hn, h4, h3⟩
    · rw [if_neg hn]
      cases ho : oddBf t p n with
      | none => rfl
      | some x =>
        obtain ⟨a1, _, a3⟩ := (oddBf_iff hg).1 ho
        have : t * x = t * q := by omega
        have hx : x = q := Int.eq_of_mul_eq_mul_left (by omega) this
        rw [hx] at a1
        exact absurd a1 hn
  · have e : oddP t p n = 1000000000001 := by rw [oddP, if_neg hc]
    rw [e, if_neg (by decide)]
    cases ho : oddBf t p n with
    | none => rfl
    | some x =>
      obtain ⟨_, a2, a3⟩ := (oddBf_iff hg).1 ho
      exfalso
      apply hc
      have h1 := odd_even g3 g6 a2
      rw [a3] at h1
      have h2 : n - p = t * x := by omega
      rw [comesP, decide_eq_true_eq, h2]
      exact ⟨h1, Int.mul_tmod_right ..⟩
theorem oddP_bound {t p n : Int} (hg : goodB t p = true) (hn : -100000000000000 ≤ n ∧ n ≤ 100000000000000) : -100000000000009 ≤ oddP t p n ∧ oddP t p n ≤ 100000000000009 := by
  obtain ⟨g1, g2, g3, g4, g5, g6⟩ := goodB_iff.1 hg
  unfold oddP
  split
  · have h1 := Int.mul_tdiv_add_tmod (n - p) t
    rename_i hc
    have h2 : (n - p).tmod t = 0 := by simp [comesP] at hc; exact hc.2
    generalize (n - p).tdiv t = q at *
    rw [h2] at h1
    have ht : t = 1 ∨ t = 2 ∨ t = 3 ∨ t = 4 ∨ t = 5 ∨ t = 6 ∨ t = 7 ∨ t = 8 ∨ t = 9 := by omega
    rcases ht with rfl | rfl | rfl | rfl | rfl | rfl | rfl | rfl | rfl <;> omega
  · omega
/-- What is asked for the odd number: the number itself, or twice it for short steps. -/
def arB (short : Bool) (n : Int) : Int := if short = true then 2 * n else n
theorem mem_bef {short : Bool} {t p n x : Int} (hg : goodB t p = true) : x ∈ befB short t p n ↔ numB x = true ∧ (x = 2 * n ∨ x = oddP t p (arB short n)) := by
  have key : ∀ m : Int, x ∈ putO (oddBf t p m) (dblL n) ↔ numB x = true ∧ (x = 2 * n ∨ x = oddP t p m) := by
    intro m
    rw [mem_putO, mem_dblL, oddBf_oddP hg]
    constructor
    · rintro (h | ⟨h1, h2⟩)
      · split at h
        · rename_i hn
          cases h
          exact ⟨hn, .inr rfl⟩
        · cases h
      · exact ⟨h1, .inl h2⟩
    · rintro ⟨h1, h2 | rfl⟩
      · exact .inr ⟨h1, h2⟩
      · exact .inl (by rw [if_pos h1])
  cases short
  · exact key n
  · exact key (2 * n)
theorem bef_num {short : Bool} {t p n x : Int} (hg : goodB t p = true) (h : x ∈ befB short t p n) : numB x = true := ((mem_bef hg).1 h).1
theorem nodup_lt {xs : List Int} (h : xs.Pairwise (· < ·)) : xs.Nodup := h.imp (fun h e => by omega)
theorem fm_nodup {short : Bool} {t p : Int} {xs : List Int} (hg : goodB t p = true) (h : xs.Nodup) : (xs.flatMap (befB short t p)).Nodup := by
  rw [List.nodup_iff_pairwise_ne, List.pairwise_flatMap]
  refine ⟨fun a _ => List.nodup_iff_pairwise_ne.1 (nodup_lt (bef_sorted short hg)), ?_⟩
  refine (List.nodup_iff_pairwise_ne.1 h).imp fun hab x hx y hy e => ?_
  subst e
  exact hab (((mem_befB hg).1 hx).2.symm.trans ((mem_befB hg).1 hy).2)
theorem srt_lt {xs : List Int} (h : xs.Nodup) : (srtI xs).Pairwise (· < ·) := by
  have h1 := srt_sorted xs
  have h2 : (srtI xs).Nodup := (srt_perm xs).nodup_iff.2 h
  have := h1.and (List.nodup_iff_pairwise_ne.1 h2)
  exact this.imp (fun ⟨a, b⟩ => by omega)
theorem levL_lt {short : Bool} {t p r : Int} (hg : goodB t p = true) : ∀ {k : Nat} {l : List Int}, levL short t p r k = some l → l.Pairwise (· < ·)
  | 0, l, h => by cases h; simp
  | k + 1, l, h => by
    cases hl : levL short t p r k with
    | none => rw [levL_none hl] at h; cases h
    | some l0 =>
      rw [levL_succ hl] at h
      split at h
      · cases h
        exact srt_lt (fm_nodup hg (nodup_lt (levL_lt hg hl)))
      · cases h
theorem levL_num {short : Bool} {t p r : Int} (hg : goodB t p = true) (hr : numB r = true) {k : Nat} {l : List Int} (h : levL short t p r k = some l) {x : Int} (hx : x ∈ l) : numB x = true := by
  have := ((levL_mem hg hr k l h x).1 hx).2
  exact allB_at (j := 0) (by omega) this
theorem bef_srt {short : Bool} {t p n : Int} (hg : goodB t p = true) : srtI (befB short t p n) = befB short t p n :=
  srt_eq ((bef_sorted short hg).imp (fun h => by omega)) (List.Perm.refl _)
/-- The level 1. -/
theorem levL_one {short : Bool} {t p r : Int} (hg : goodB t p = true) : levL short t p r 1 = some (befB short t p r) := by
  have h0 : levL short t p r 0 = some [r] := rfl
  have h1 := bef_len short t p r
  rw [levL_succ h0]
  simp only [List.flatMap_cons, List.flatMap_nil, List.append_nil]
  rw [if_pos (by omega), bef_srt hg]

/-- Twice. -/
def dblF (n : Int) : Int := 2 * n
/-- Is a number barren: as the program finds it, and as the model does. -/
def barP (t p n : Int) : Bool := (List.range 6).all fun j => !comesP t p (itr dblF (j + 1) n)
def turnF (t r : Int) : Int := (2 * r) % (2 * t)
def hitS (t p r : Int) : Bool := (r - p - t) % (2 * t) == 0
def barS (t p n : Int) : Bool := (List.range (2 * t.toNat + 1)).all fun k => !hitS t p (itr (turnF t) k (n % (2 * t)))
theorem itr_dbl (j : Nat) (n : Int) : itr dblF j n = 2 ^ j * n := by
  induction j with
  | zero => simp [itr]
  | succ j ih => rw [itr_succ, ih, dblF, Int.pow_succ]; rw [Int.mul_comm (2 ^ j) 2, Int.mul_assoc]
theorem itr_dbl_add (j : Nat) (a b : Int) : itr dblF j (a + b) = itr dblF j a + itr dblF j b := by rw [itr_dbl, itr_dbl, itr_dbl, Int.mul_add]
theorem comesP_mod {t p n m : Int} (h : (2 * t) ∣ n - m) : comesP t p n = comesP t p m := by
  obtain ⟨c, hc⟩ := h
  obtain rfl : n = m + 2 * t * c := by omega
  have e : m + 2 * t * c - p = (m - p) + t * (2 * c) := by rw [Int.mul_comm 2 t, Int.mul_assoc]; omega
  have h1 : (m + 2 * t * c) % 2 = m % 2 := by rw [Int.mul_assoc]; omega
  have h2 : (m + 2 * t * c - p).tmod t = 0 ↔ (m - p).tmod t = 0 := by
    rw [← Int.dvd_iff_tmod_eq_zero, ← Int.dvd_iff_tmod_eq_zero, e]
    exact ⟨fun h => by simpa using Int.dvd_sub h (Int.dvd_mul_right t (2 * c)), fun h => Int.dvd_add h (Int.dvd_mul_right t (2 * c))⟩
  rw [comesP, comesP, h1, decide_eq_decide, h2]
theorem barP_mod (t p n : Int) : barP t p n = barP t p (n % (2 * t)) := by
  unfold barP
  congr 1
  funext j
  rw [comesP_mod]
  rw [itr_dbl, itr_dbl, ← Int.mul_sub]
  refine Int.dvd_trans ?_ (Int.dvd_mul_left _ _)
  refine ⟨n / (2 * t), ?_⟩
  have := Int.emod_add_mul_ediv n (2 * t)
  omega
theorem bar_dec : (List.range 5).all (fun i => (List.range 10).all fun q => (List.range (2 * (2 * i + 1))).all fun (r : Nat) => barP (2 * (i : Int) + 1) (2 * (q : Int) - 9) r == barS (2 * (i : Int) + 1) (2 * (q : Int) - 9) r) = true := by decide +kernel
theorem bar_eq {t p : Int} (n : Int) (hg : goodB t p = true) : barP t p n = barS t p n := by
  obtain ⟨g1, g2, g3, g4, g5, g6⟩ := goodB_iff.1 hg
  have hS : barS t p n = barS t p (n % (2 * t)) := by unfold barS; rw [Int.emod_emod_of_dvd _ (Int.dvd_refl _)]
  rw [barP_mod, hS]
  have hr0 : 0 ≤ n % (2 * t) := Int.emod_nonneg _ (by omega)
  have hr1 : n % (2 * t) < 2 * t := Int.emod_lt_of_pos _ (by omega)
  generalize n % (2 * t) = r at *
  obtain ⟨i, rfl⟩ : ∃ i : Nat, t = 2 * (i : Int) + 1 := ⟨(t / 2).toNat, by omega⟩
  obtain ⟨q, rfl⟩ : ∃ q : Nat, p = 2 * (q : Int) - 9 := ⟨((p + 9) / 2).toNat, by omega⟩
  obtain ⟨s, rfl⟩ : ∃ s : Nat, r = s := ⟨r.toNat, by omega⟩
  have h := bar_dec
  rw [List.all_eq_true] at h
  have h2 := h i (List.mem_range.2 (by omega))
  rw [List.all_eq_true] at h2
  have h3 := h2 q (List.mem_range.2 (by omega))
  rw [List.all_eq_true] at h3
  have h4 := h3 s (List.mem_range.2 (by omega))
  exact eq_of_beq h4
theorem barP_yes {t p n : Int} (h : ∀ m, m < 6 → comesP t p (itr dblF (m + 1) n) = false) : barP t p n = true := by
  rw [barP, List.all_eq_true]
  intro m hm
  rw [h m (List.mem_range.1 hm)]; rfl
theorem barP_no {t p n : Int} {m : Nat} (hm : m < 6) (h : comesP t p (itr dblF (m + 1) n) = true) : barP t p n = false := by
  rw [Bool.eq_false_iff]
  intro hh
  rw [barP, List.all_eq_true] at hh
  have := hh m (List.mem_range.2 hm)
  rw [h] at this
  cases this
theorem barS_yes {t p n : Int} (h : ∀ m, m < 2 * t.toNat + 1 → hitS t p (itr (turnF t) m (n % (2 * t))) = false) : barS t p n = true := by
  rw [barS, List.all_eq_true]
  intro m hm
  rw [h m (List.mem_range.1 hm)]; rfl
theorem barS_no {t p n : Int} {m : Nat} (hm : m < 2 * t.toNat + 1) (h : hitS t p (itr (turnF t) m (n % (2 * t))) = true) : barS t p n = false := by
  rw [Bool.eq_false_iff]
  intro hh
  rw [barS, List.all_eq_true] at hh
  have := hh m (List.mem_range.2 hm)
  rw [h] at this
  cases this
end Go.Proofs.Ytbhmplccjaijjaa
