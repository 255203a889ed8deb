/-
  PLAIN MATHEMATICS OF CHAPTER 3's WORDS: what a word does, its number, that the signs of a whole number's short steps are the word's. No Go, no program.
-/
import Derived.Test.YtnhpoefhcngoaaaDoorWord
namespace Go.Proofs.YtnhpoefhcngoaaaDoor

/-- One sign more: p, q and d. -/
def doesS (t p : Int) (x : Int × Int × Int) (c : UInt8) : Int × Int × Int :=
  if c = 111 then (t * x.1, t * x.2.1 + p * x.2.2, x.2.2 * 2) else (x.1, x.2.1, x.2.2 * 2)
/-- p, q and d of a word. -/
def doesL (t p : Int) (l : List UInt8) : Int × Int × Int := l.foldl (doesS t p) (1, 0, 1)
theorem doesL_nil (t p : Int) : doesL t p [] = (1, 0, 1) := rfl
theorem doesL_snoc (t p : Int) (l : List UInt8) (c : UInt8) : doesL t p (l ++ [c]) = doesS t p (doesL t p l) c := by
  unfold doesL; rw [List.foldl_append]; rfl
/-- The same from the first sign on. -/
def doesR (t p : Int) : List UInt8 → Int × Int × Int
  | [] => (1, 0, 1)
  | c :: l => if c = 111 then (t * (doesR t p l).1, p * (doesR t p l).1 + 2 * (doesR t p l).2.1, 2 * (doesR t p l).2.2)
    else ((doesR t p l).1, 2 * (doesR t p l).2.1, 2 * (doesR t p l).2.2)
theorem doesR_fold (t p : Int) (l : List UInt8) : ∀ x : Int × Int × Int, l.foldl (doesS t p) x = (x.1 * (doesR t p l).1, (doesR t p l).1 * x.2.1 + x.2.2 * (doesR t p l).2.1, x.2.2 * (doesR t p l).2.2) := by
  induction l with
  | nil => intro x; simp [doesR]
  | cons c l ih =>
    intro x
    rw [List.foldl_cons, ih]
    clear ih
    obtain ⟨a, b, d⟩ := x
    have e : doesR t p (c :: l) = if c = 111 then (t * (doesR t p l).1, p * (doesR t p l).1 + 2 * (doesR t p l).2.1, 2 * (doesR t p l).2.2) else ((doesR t p l).1, 2 * (doesR t p l).2.1, 2 * (doesR t p l).2.2) := rfl
    rw [e]
    generalize doesR t p l = r
    obtain ⟨P, Q, D⟩ := r
    unfold doesS
    by_cases h : c = 111
    · rw [if_pos h, if_pos h]
      simp only [Prod.mk.injEq]
      refine ⟨by rw [← Int.mul_assoc, Int.mul_comm a t], ?_, by rw [Int.mul_assoc]⟩
      grind
    · rw [if_neg h, if_neg h]
      simp only [Prod.mk.injEq]
      refine ⟨trivial, ?_, by rw [Int.mul_assoc]⟩
      grind
theorem doesL_R (t p : Int) (l : List UInt8) : doesL t p l = doesR t p l := by
  unfold doesL
  rw [doesR_fold]
  simp

theorem doesR_bound {t p : Int} (hg : goodB t p = true) (l : List UInt8) :
    (doesL t p l).1 % 2 = 1 ∧ 1 ≤ (doesL t p l).1 ∧ (doesL t p l).1 ≤ 9 ^ l.length ∧ (doesL t p l).2.2 = 2 ^ l.length ∧ ((doesL t p l).2.1.natAbs : Int) + 2 * 2 ^ l.length ≤ 2 * 9 ^ l.length := by
  obtain ⟨g1, g2, g3, g4, g5, g6⟩ := goodB_iff.1 hg
  unfold doesL
  obtain ⟨r, rfl⟩ : ∃ r : List UInt8, l = r.reverse := ⟨l.reverse, by simp⟩
  induction r with
  | nil => simp
  | cons c r ih =>
    rw [List.reverse_cons]
    generalize r.reverse = l at ih ⊢
    rw [List.foldl_append, List.foldl_cons, List.foldl_nil, List.length_append, List.length_singleton, Int.pow_succ, Int.pow_succ]
    rcases hx : l.foldl (doesS t p) (1, 0, 1) with ⟨a, b, d⟩
    rw [hx] at ih
    dsimp only at ih
    obtain ⟨i1, i2, i3, i4, i5⟩ := ih
    obtain ⟨N, hN⟩ : ∃ N : Int, (9 : Int) ^ l.length = N := ⟨_, rfl⟩
    obtain ⟨T, hT⟩ : ∃ T : Int, (2 : Int) ^ l.length = T := ⟨_, rfl⟩
    have hTp : 0 < T := by rw [← hT]; exact Int.pow_pos (by decide)
    rw [hN] at i3 i5 ⊢
    rw [hT] at i4 i5 ⊢
    unfold doesS
    by_cases h : c = 111
    · rw [if_pos h]
      dsimp only
      have m1 := mul_bound (t := t) (n := a) (B := a) g1 g2 (by omega) (Int.le_refl _)
      have m2 := mul_bound (t := t) (n := b) (B := b.natAbs) g1 g2 (by omega) (by omega)
      have m3 : -(9 * d) ≤ p * d ∧ p * d ≤ 9 * d := by
        have hp : p = -9 ∨ p = -7 ∨ p = -5 ∨ p = -3 ∨ p = -1 ∨ p = 1 ∨ p = 3 ∨ p = 5 ∨ p = 7 ∨ p = 9 := by omega
        rcases hp with rfl | rfl | rfl | rfl | rfl | rfl | rfl | rfl | rfl | rfl <;> omega
      have m4 : 1 ≤ t * a := by have := Int.mul_pos (show 0 < t by omega) (show 0 < a by omega); omega
      refine ⟨by rw [Int.mul_emod, g3, i1]; rfl, m4, by omega, by rw [i4], by omega⟩
    · rw [if_neg h]
      dsimp only
      refine ⟨i1, i2, by omega, by rw [i4], by omega⟩

theorem pow9_10 {k : Nat} (h : k ≤ 10) : (9 : Int) ^ k ≤ 3486784401 := by
  have : ∀ k : Fin 11, (9 : Int) ^ k.val ≤ 3486784401 := by decide
  exact this ⟨k, by omega⟩
theorem pow2_10 {k : Nat} (h : k ≤ 10) : (2 : Int) ^ k ≤ 1024 ∧ (0 : Int) < 2 ^ k := by
  refine ⟨?_, Int.pow_pos (by decide)⟩
  have : ∀ k : Fin 11, (2 : Int) ^ k.val ≤ 1024 := by decide
  exact this ⟨k, by omega⟩
/-- How great p, q and d are. -/
theorem doesL_b {t p : Int} (hg : goodB t p = true) {l : List UInt8} (hl : l.length ≤ 10) :
    1 ≤ (doesL t p l).1 ∧ (doesL t p l).1 ≤ 3486784401 ∧ 1 ≤ (doesL t p l).2.2 ∧ (doesL t p l).2.2 ≤ 1024 ∧ -6973568802 ≤ (doesL t p l).2.1 ∧ (doesL t p l).2.1 ≤ 6973568802 := by
  obtain ⟨h1, h2, h3, h4, h5⟩ := doesR_bound hg l
  have := pow9_10 hl
  have := pow2_10 hl
  omega
theorem doesL_ne {t p : Int} (hg : goodB t p = true) {l : List UInt8} (hl : 1 ≤ l.length) : (doesL t p l).2.2 ≠ (doesL t p l).1 := by
  obtain ⟨h1, h2, h3, h4, h5⟩ := doesR_bound hg l
  obtain ⟨k, hk⟩ : ∃ k, l.length = k + 1 := ⟨l.length - 1, by omega⟩
  rw [hk, Int.pow_succ] at h4
  omega

/-- Numerator, denominator, neither in lowest terms; the denominator is greater than 0. -/
def rawN (t p : Int) (l : List UInt8) : Int × Int :=
  if (doesL t p l).2.2 - (doesL t p l).1 < 0 then (-(doesL t p l).2.1, -((doesL t p l).2.2 - (doesL t p l).1)) else ((doesL t p l).2.1, (doesL t p l).2.2 - (doesL t p l).1)
/-- The number of a word: numerator and denominator. -/
def numW (t p : Int) (l : List UInt8) : Int × Int :=
  ((rawN t p l).1.tdiv (Int.gcd (rawN t p l).1 (rawN t p l).2), (rawN t p l).2.tdiv (Int.gcd (rawN t p l).1 (rawN t p l).2))
theorem rawN_pos {t p : Int} (hg : goodB t p = true) {l : List UInt8} (hl : 1 ≤ l.length) : 1 ≤ (rawN t p l).2 := by
  have := doesL_ne hg hl
  unfold rawN
  split <;> dsimp only <;> omega
theorem rawN_eq (t p : Int) (l : List UInt8) (n : Int) : (rawN t p l).1 = n * (rawN t p l).2 ↔ (doesL t p l).2.1 = n * ((doesL t p l).2.2 - (doesL t p l).1) := by
  unfold rawN
  split
  · dsimp only; rw [Int.mul_neg, Int.neg_inj]
  · rfl
theorem rawN_b {t p : Int} (hg : goodB t p = true) {l : List UInt8} (hl : l.length ≤ 10) :
    -6973568802 ≤ (rawN t p l).1 ∧ (rawN t p l).1 ≤ 6973568802 ∧ (rawN t p l).2 ≤ 3486784401 := by
  have := doesL_b hg hl
  unfold rawN
  split <;> dsimp only <;> omega

/-- A denominator of 1: the number is whole. -/
theorem numW_one {t p : Int} (hg : goodB t p = true) {l : List UInt8} (hl : 1 ≤ l.length) :
    (numW t p l).2 = 1 ↔ (rawN t p l).1 = (numW t p l).1 * (rawN t p l).2 ∧ (rawN t p l).2 ∣ (rawN t p l).1 := by
  have hp := rawN_pos hg hl
  unfold numW
  dsimp only
  obtain ⟨a, ha⟩ : ∃ a, (rawN t p l).1 = a := ⟨_, rfl⟩
  obtain ⟨b, hb⟩ : ∃ b, (rawN t p l).2 = b := ⟨_, rfl⟩
  rw [hb] at hp
  rw [ha, hb]
  clear ha hb
  have h1 : (Int.gcd a b : Int) ∣ a := Int.gcd_dvd_left ..
  have h2 : (Int.gcd a b : Int) ∣ b := Int.gcd_dvd_right ..
  obtain ⟨g, hgg⟩ : ∃ g : Int, (Int.gcd a b : Int) = g := ⟨_, rfl⟩
  have hg0 : 0 < g := by
    rw [← hgg]
    have : Int.gcd a b ≠ 0 := by intro h; rw [Int.gcd_eq_zero_iff] at h; omega
    omega
  rw [hgg] at h1 h2 ⊢
  obtain ⟨x, rfl⟩ := h1
  obtain ⟨y, rfl⟩ := h2
  rw [Int.mul_tdiv_cancel_left _ (by omega), Int.mul_tdiv_cancel_left _ (by omega)]
  constructor
  · intro h; subst h
    refine ⟨by rw [Int.mul_one, Int.mul_comm], by rw [Int.mul_one]; exact Int.dvd_mul_right _ _⟩
  · rintro ⟨h3, h4⟩
    have hd : (Int.gcd (g * x) (g * y) : Int) = g * y := by
      rw [Int.gcd_comm, Int.gcd_eq_natAbs_left_iff_dvd.2 h4]
      omega
    rw [hd] at hgg
    have : g * (y - 1) = 0 := by rw [Int.mul_sub, hgg]; omega
    rcases Int.mul_eq_zero.1 this with h | h <;> omega

/-- A number that a word leaves as it is has this word, and its short steps come to it again. -/
theorem cyc_goes {t p : Int} (hg : goodB t p = true) (n : Int) : ∀ (l : List UInt8), Signs l → ∀ y : Int, (doesR t p l).1 * y + (doesR t p l).2.1 = (doesR t p l).2.2 * n →
    wrd t p y l.length = l ∧ itr (sx t p) l.length y = n := by
  obtain ⟨g1, g2, g3, g4, g5, g6⟩ := goodB_iff.1 hg
  intro l
  induction l with
  | nil => intro _ y h; simp [doesR] at h; exact ⟨rfl, h⟩
  | cons c l ih =>
    intro hs y h
    have hodd : (doesR t p l).1 % 2 = 1 := by rw [← doesL_R]; exact (doesR_bound hg l).1
    have hw : ∀ y, wrd t p y (l.length + 1) = par y :: wrd t p (sx t p y) l.length := fun y => by
      unfold wrd
      rw [List.range_succ_eq_map, List.map_cons, List.map_map]
      rfl
    rw [List.length_cons, hw]
    unfold doesR at h
    rcases hx : doesR t p l with ⟨P, Q, D⟩
    rw [hx] at h hodd
    simp only [hx] at ih
    dsimp only at hodd h ih
    have hP : P = 2 * (P / 2) + 1 := by omega
    obtain ⟨k, hk⟩ : ∃ k, P / 2 = k := ⟨_, rfl⟩
    rw [hk] at hP
    rcases hs c List.mem_cons_self with rfl | rfl
    · rw [if_pos rfl] at h
      dsimp only at h
      have h2 : P * (t * y + p) = 2 * (D * n - Q) := by grind
      have he : (t * y + p) % 2 = 0 := by
        have : P * (t * y + p) = 2 * (k * (t * y + p)) + (t * y + p) := by rw [hP]; grind
        omega
      have hyo : y % 2 ≠ 0 := by
        intro h0
        have : (t * y) % 2 = 0 := by rw [Int.mul_emod, h0]; simp
        omega
      have hsx : sx t p y = (t * y + p) / 2 := if_neg hyo
      have := ih (fun c hc => hs c (List.mem_cons_of_mem _ hc)) (sx t p y) (by
        rw [hsx]
        obtain ⟨z, hz⟩ : ∃ z, (t * y + p) / 2 = z := ⟨_, rfl⟩
        rw [hz]
        have e : t * y + p = 2 * z := by omega
        rw [e] at h2
        have : 2 * (P * z) = 2 * (D * n - Q) := by rw [← h2]; grind
        omega)
      refine ⟨?_, this.2⟩
      rw [this.1]
      unfold par
      rw [if_neg hyo]
    · rw [if_neg (by decide)] at h
      dsimp only at h
      have h2 : P * y = 2 * (D * n - Q) := by grind
      have he : y % 2 = 0 := by
        have : P * y = 2 * (k * y) + y := by rw [hP]; grind
        omega
      have hsx : sx t p y = y / 2 := if_pos he
      have := ih (fun c hc => hs c (List.mem_cons_of_mem _ hc)) (sx t p y) (by
        rw [hsx]
        obtain ⟨z, hz⟩ : ∃ z, y / 2 = z := ⟨_, rfl⟩
        rw [hz]
        have e : y = 2 * z := by omega
        rw [e] at h2
        have : 2 * (P * z) = 2 * (D * n - Q) := by rw [← h2]; grind
        omega)
      refine ⟨?_, this.2⟩
      rw [this.1]
      unfold par
      rw [if_pos he]

/-- Of a word whose number is whole: its numbers' short steps. -/
theorem cyc_word {t p : Int} (hg : goodB t p = true) {l : List UInt8} (hs : Signs l) (hl : 1 ≤ l.length) (h1 : (numW t p l).2 = 1) :
    wrd t p (numW t p l).1 l.length = l ∧ itr (sx t p) l.length (numW t p l).1 = (numW t p l).1 := by
  have h2 := (rawN_eq t p l _).1 ((numW_one hg hl).1 h1).1
  rw [doesL_R] at h2
  refine cyc_goes hg _ l hs _ ?_
  rw [h2]
  grind
theorem numW_b {t p : Int} (hg : goodB t p = true) {l : List UInt8} (hl : l.length ≤ 10) : -6973568802 ≤ (numW t p l).1 ∧ (numW t p l).1 ≤ 6973568802 := by
  have h := rawN_b hg hl
  unfold numW
  dsimp only
  obtain ⟨a, ha⟩ : ∃ a, (rawN t p l).1 = a := ⟨_, rfl⟩
  rw [ha] at h ⊢
  have : (a.tdiv (Int.gcd a (rawN t p l).2)).natAbs ≤ a.natAbs := by rw [Int.natAbs_tdiv]; exact Nat.div_le_self _ _
  omega
end Go.Proofs.YtnhpoefhcngoaaaDoor
