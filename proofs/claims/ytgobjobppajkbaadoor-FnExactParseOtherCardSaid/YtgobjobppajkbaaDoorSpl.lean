/-
  TEXTS THAT ARE SPLIT AT A BYTE, AND NUMBERS THAT THEY SPELL: mathematics alone.
-/
import Derived.Test.YtgobjobppajkbaaDoorDgt
import Derived.Lib.IndexBytes
import Derived.Lib.CutLaws
import Derived.Lib.AtoiAll
namespace Go.Proofs.YtgobjobppajkbaaDoor
open Go.RowKit
set_option linter.unusedVariables false

/-- The pieces of a text between its bytes c. -/
def spl (c : UInt8) : List UInt8 → List (List UInt8)
  | [] => [[]]
  | x :: l => if x = c then [] :: spl c l else
    match spl c l with
    | [] => [[x]]
    | p :: ps => (x :: p) :: ps
theorem spl_ne (c : UInt8) : ∀ l, spl c l ≠ []
  | [] => by simp [spl]
  | x :: l => by
    unfold spl
    split
    · simp
    · split <;> simp
theorem spl_miss {c : UInt8} : ∀ {l : List UInt8}, Lib.indexByte l c = -1 → spl c l = [l]
  | [], _ => rfl
  | x :: l, h => by
    have hge := Lib.indexByte_ge l c
    unfold Lib.indexByte at h
    unfold spl
    by_cases hx : x = c
    · subst hx; simp at h
    · have hx' : (x == c) = false := by simpa using hx
      rw [hx'] at h
      by_cases hi : Lib.indexByte l c = -1
      · rw [if_neg hx, spl_miss hi]
      · have hi' : (Lib.indexByte l c == -1) = false := by simpa using hi
        rw [hi'] at h
        simp at h
        omega
theorem spl_hit {c : UInt8} : ∀ {l : List UInt8} {i : Nat}, Lib.indexByte l c = (i : Int) → spl c l = l.take i :: spl c (l.drop (i + 1))
  | [], i, h => by simp [Lib.indexByte] at h
  | x :: l, i, h => by
    have hge := Lib.indexByte_ge l c
    unfold Lib.indexByte at h
    by_cases hx : x = c
    · subst hx
      simp at h
      obtain rfl : i = 0 := by omega
      simp [spl]
    · have hx' : (x == c) = false := by simpa using hx
      rw [hx'] at h
      by_cases hi : Lib.indexByte l c = -1
      · have hi' : (Lib.indexByte l c == -1) = true := by simpa using hi
        rw [hi'] at h
        simp at h
      · have hi' : (Lib.indexByte l c == -1) = false := by simpa using hi
        rw [hi'] at h
        simp at h
        obtain ⟨k, rfl⟩ : ∃ k, i = k + 1 := ⟨i - 1, by omega⟩
        have := spl_hit (c := c) (l := l) (i := k) (by omega)
        rw [spl, if_neg hx, this]
        simp
theorem spl_len (c : UInt8) : ∀ l, (spl c l).length ≤ l.length + 1
  | [] => by simp [spl]
  | x :: l => by
    have := spl_len c l
    unfold spl
    split
    · simp; omega
    · split
      · simp
      · rename_i h
        rw [h] at this
        simp at this ⊢
        omega
theorem spl_mem (c : UInt8) : ∀ l p, p ∈ spl c l → p.length ≤ l.length
  | [], p, h => by simp [spl] at h; subst h; simp
  | x :: l, p, h => by
    have ih := spl_mem c l
    unfold spl at h
    split at h
    · rcases List.mem_cons.1 h with rfl | h
      · simp
      · have := ih p h; simp; omega
    · split at h
      · simp at h; subst h; simp
      · rename_i q qs e
        rcases List.mem_cons.1 h with rfl | h
        · have := ih q (by rw [e]; simp); simp; omega
        · have := ih p (by rw [e]; simp [h]); simp; omega
theorem spl_free {c : UInt8} : ∀ {l : List UInt8}, c ∉ l → spl c l = [l]
  | [], _ => rfl
  | x :: l, h => by
    have h1 : ¬ x = c := fun e => h (by simp [e])
    have h2 : c ∉ l := fun e => h (by simp [e])
    rw [spl, if_neg h1, spl_free h2]
theorem spl_app {c : UInt8} : ∀ {p : List UInt8} (l : List UInt8), c ∉ p → spl c (p ++ [c] ++ l) = p :: spl c l
  | [], l, _ => by simp [spl]
  | x :: p, l, h => by
    have h1 : ¬ x = c := fun e => h (by simp [e])
    have h2 : c ∉ p := fun e => h (by simp [e])
    have := spl_app (p := p) l h2
    rw [List.cons_append, List.cons_append, spl, if_neg h1, this]
theorem spl_join {c : UInt8} : ∀ {ps : List (List UInt8)}, ps ≠ [] → (∀ p ∈ ps, c ∉ p) → spl c (Lib.join ps [c]) = ps
  | [], h, _ => (h rfl).elim
  | [p], _, h => by
    rw [Lib.join_one]
    exact spl_free (h p (by simp))
  | p :: q :: ps, _, h => by
    have ih := spl_join (ps := q :: ps) (by simp) (fun x hx => h x (List.mem_cons_of_mem _ hx))
    have e : Lib.join (p :: q :: ps) [c] = p ++ [c] ++ Lib.join (q :: ps) [c] := by simp [Lib.join]
    rw [e, spl_app _ (h p (by simp)), ih]
theorem join_spl (c : UInt8) : ∀ l, Lib.join (spl c l) [c] = l
  | [] => by simp [spl, Lib.join_one]
  | x :: l => by
    have ih := join_spl c l
    unfold spl
    split
    · rename_i h
      subst h
      cases e : spl x l with
      | nil => exact (spl_ne _ _ e).elim
      | cons p ps =>
        rw [e] at ih
        have : Lib.join ([] :: p :: ps) [x] = [] ++ [x] ++ Lib.join (p :: ps) [x] := by simp [Lib.join]
        rw [this, ih]
        rfl
    · split
      · rename_i e
        exact (spl_ne _ _ e).elim
      · rename_i p ps e
        rw [e] at ih
        cases ps with
        | nil => rw [Lib.join_one] at ih ⊢; rw [ih]
        | cons q qs =>
          have e1 : Lib.join ((x :: p) :: q :: qs) [c] = (x :: p) ++ [c] ++ Lib.join (q :: qs) [c] := by simp [Lib.join]
          have e2 : Lib.join (p :: q :: qs) [c] = p ++ [c] ++ Lib.join (q :: qs) [c] := by simp [Lib.join]
          rw [e2] at ih
          rw [e1, ← ih]
          simp

/-- The two parts of a text at its first byte c. -/
def cu1 (c : UInt8) (l : List UInt8) : List UInt8 := (Lib.cut l [c]).1
def cu2 (c : UInt8) (l : List UInt8) : List UInt8 := (Lib.cut l [c]).2.1
theorem cu1_len (c : UInt8) (l : List UInt8) : (cu1 c l).length ≤ l.length := by
  unfold cu1 Lib.cut
  split
  · simp; omega
  · exact Nat.le_refl _
theorem cu2_len (c : UInt8) (l : List UInt8) : (cu2 c l).length ≤ l.length := by
  unfold cu2 Lib.cut
  split
  · simp
  · simp
theorem idx_app {c : UInt8} : ∀ {p : List UInt8} (l : List UInt8), c ∉ p → Lib.indexByte (p ++ [c] ++ l) c = (p.length : Int)
  | [], l, _ => by simp [Lib.indexByte]
  | x :: p, l, h => by
    have h1 : ¬ x = c := fun e => h (by simp [e])
    have h2 : c ∉ p := fun e => h (by simp [e])
    have := idx_app (p := p) l h2
    rw [List.cons_append, List.cons_append, Lib.indexByte, this]
    have hx' : (x == c) = false := by simpa using h1
    rw [hx']
    have h3 : (((p.length : Nat) : Int) == -1) = false := by simp
    rw [h3]
    simp
theorem cu_app {c : UInt8} {p : List UInt8} (l : List UInt8) (h : c ∉ p) : cu1 c (p ++ [c] ++ l) = p ∧ cu2 c (p ++ [c] ++ l) = l := by
  have e := idx_app l h
  unfold cu1 cu2 Lib.cut
  rw [Lib.index_one, e, if_pos (by omega)]
  simp

/-- Digits alone. -/
theorem dd_mem (n : Nat) : ∀ b ∈ Lib.decDigits n, 48 ≤ b.toNat ∧ b.toNat ≤ 57 := by
  induction n using Nat.strongRecOn with
  | ind n ih =>
    intro b hb
    by_cases h : n < 10
    · rw [dd_one h] at hb
      simp at hb
      subst hb
      have := dig_byte h
      omega
    · rw [dd_more h] at hb
      rcases List.mem_append.1 hb with hb | hb
      · exact ih (n / 10) (by omega) b hb
      · simp at hb
        subst hb
        have := dig_byte (n := n % 10) (by omega)
        omega
theorem dd_ne (n : Nat) : Lib.decDigits n ≠ [] := by
  by_cases h : n < 10
  · rw [dd_one h]; simp
  · rw [dd_more h]; simp
theorem dd_free (n : Nat) {c : UInt8} (h : c.toNat < 48 ∨ 57 < c.toNat) : c ∉ Lib.decDigits n := fun hc => by
  have := dd_mem n c hc
  omega
theorem pu_snoc (b : UInt8) : ∀ (l : List UInt8) (acc : Nat), Lib.parseUint10 acc (l ++ [b]) = match Lib.parseUint10 acc l with
    | .ok u => Lib.parseUint10 u [b]
    | .«syntax» => .«syntax»
    | .range => .range
  | [], acc => rfl
  | x :: l, acc => by
    rw [List.cons_append, Lib.parseUint10, Lib.parseUint10]
    split
    · split
      · rfl
      · split
        · rfl
        · exact pu_snoc b l _
    · rfl
theorem pu_dig (n : Nat) (hn : n < 9223372036854775808) : Lib.parseUint10 0 (Lib.decDigits n) = .ok n := by
  induction n using Nat.strongRecOn with
  | ind n ih =>
    by_cases h : n < 10
    · rw [dd_one h]
      have hd := dig_byte h
      have h1 : (dg8 n).toNat = 48 + n := by omega
      simp only [Lib.parseUint10, h1]
      rw [if_pos (by omega), if_neg (by omega), if_neg (by omega)]
      congr 1
      omega
    · rw [dd_more h, pu_snoc, ih (n / 10) (by omega) (by omega)]
      have hd := dig_byte (n := n % 10) (by omega)
      have h1 : (dg8 (n % 10)).toNat = 48 + n % 10 := by omega
      simp only [Lib.parseUint10, h1]
      rw [if_pos (by omega), if_neg (by omega), if_neg (by omega)]
      congr 1
      omega
/-- The number that a text spells, 0 where it spells none. -/
def numL (l : List UInt8) : Int := match Lib.atoiAll l with
  | .ok v => v
  | _ => 0
theorem numL_dig (n : Nat) (hn : n < 9223372036854775808) : numL (Lib.decDigits n) = (n : Int) := by
  have hp := pu_dig n hn
  have hm := dd_mem n
  cases e : Lib.decDigits n with
  | nil => exact (dd_ne _ e).elim
  | cons c r =>
    rw [e] at hp hm
    have hc := hm c (by simp)
    unfold numL Lib.atoiAll
    dsimp only
    rw [if_neg (by omega)]
    unfold Lib.parseMag
    rw [if_neg (by simp), hp]
    dsimp only
    rw [if_neg (by omega), if_neg (by omega), if_neg (by omega)]
theorem numL_neg (n : Nat) (hn : n < 9223372036854775808) : numL (45 :: Lib.decDigits n) = -(n : Int) := by
  unfold numL Lib.atoiAll
  dsimp only
  rw [if_pos (by decide)]
  unfold Lib.parseMag
  rw [if_neg (dd_ne n), pu_dig n hn]
  dsimp only
  rw [if_neg (by intro h; exact h.1 (by decide)), if_neg (by omega), if_pos (by decide)]
theorem numL_pos (n : Nat) (hn : n < 9223372036854775808) : numL (43 :: Lib.decDigits n) = (n : Int) := by
  unfold numL Lib.atoiAll
  dsimp only
  rw [if_pos (by decide)]
  unfold Lib.parseMag
  rw [if_neg (dd_ne n), pu_dig n hn]
  dsimp only
  rw [if_neg (by omega), if_neg (by intro h; exact absurd h.1 (by decide)), if_neg (by decide)]

/-- What digits spell behind a number; -1 where there is another byte. -/
def rdF (acc : Int) : List UInt8 → Int
  | [] => acc
  | b :: r => if 48 ≤ b.toNat ∧ b.toNat ≤ 57 then rdF (10 * acc + ((b.toNat : Int) - 48)) r else -1
/-- May a text be a number as it is written here. -/
def rdOk (l : List UInt8) : Bool := decide (1 ≤ l.length ∧ l.length ≤ 6) && !(l.head? == some 48 && decide (1 < l.length))
/-- The number of a text that is written so, or -1. -/
def rdL (l : List UInt8) : Int := if rdOk l = true then rdF 0 l else -1
theorem rdF_snoc (b : UInt8) : ∀ (l : List UInt8) (acc : Int), 0 ≤ acc → rdF acc (l ++ [b]) = if rdF acc l = -1 then -1 else rdF (rdF acc l) [b]
  | [], acc, h => by
    rw [List.nil_append, show rdF acc [] = acc from rfl, if_neg (by omega)]
  | x :: l, acc, h => by
    rw [List.cons_append]
    by_cases hx : 48 ≤ x.toNat ∧ x.toNat ≤ 57
    · have e : ∀ r, rdF acc (x :: r) = rdF (10 * acc + ((x.toNat : Int) - 48)) r := fun r => by rw [rdF, if_pos hx]
      rw [e, e, rdF_snoc b l _ (by omega)]
    · have e : ∀ r, rdF acc (x :: r) = -1 := fun r => by rw [rdF, if_neg hx]
      rw [e, e, if_pos rfl]
theorem rdF_ge : ∀ (l : List UInt8) (acc : Int), 0 ≤ acc → rdF acc l = -1 ∨ acc ≤ rdF acc l
  | [], acc, _ => .inr (Int.le_refl _)
  | x :: l, acc, h => by
    rw [rdF]
    split
    · rcases rdF_ge l (10 * acc + ((x.toNat : Int) - 48)) (by omega) with h1 | h1
      · exact .inl h1
      · exact .inr (by omega)
    · exact .inl rfl
theorem rdF_bound : ∀ (l : List UInt8) (acc B : Int), 0 ≤ acc → acc < B → rdF acc l < B * 10 ^ l.length
  | [], acc, B, h, hb => by simpa [rdF] using hb
  | x :: l, acc, B, h, hb => by
    rw [rdF]
    split
    · have := rdF_bound l (10 * acc + ((x.toNat : Int) - 48)) (10 * B) (by omega) (by omega)
      rw [List.length_cons, Int.pow_succ]
      rw [show B * (10 ^ l.length * 10) = 10 * B * 10 ^ l.length by rw [Int.mul_comm (10 ^ l.length) 10, ← Int.mul_assoc, Int.mul_comm B 10]]
      exact this
    · have : 0 < B * 10 ^ (x :: l).length := Int.mul_pos (by omega) (Int.pow_pos (by omega))
      omega
theorem b8 {b : UInt8} (hb : 48 ≤ b.toNat ∧ b.toNat ≤ 57) : dg8 (b.toNat - 48) = b :=
  UInt8.toNat_inj.1 (by have := dig_byte (n := b.toNat - 48) (by omega); omega)
/-- A text without superfluous zeros that spells a number is its digits. -/
theorem rdF_canon : ∀ (l : List UInt8), l ≠ [] → (l.head? = some 48 → l.length = 1) → rdF 0 l ≠ -1 → l = Lib.decDigits (rdF 0 l).toNat ∧ (1 < l.length → 10 ≤ rdF 0 l) ∧ (l.head? ≠ some 48 → 1 ≤ rdF 0 l) := by
  suffices h : ∀ (n : Nat) (l : List UInt8), l.length ≤ n → l ≠ [] → (l.head? = some 48 → l.length = 1) → rdF 0 l ≠ -1 → l = Lib.decDigits (rdF 0 l).toNat ∧ (1 < l.length → 10 ≤ rdF 0 l) ∧ (l.head? ≠ some 48 → 1 ≤ rdF 0 l) from fun l => h l.length l (Nat.le_refl _)
  intro n
  induction n with
  | zero => intro l hn h; exact (h (List.eq_nil_of_length_eq_zero (by omega))).elim
  | succ n ih0 =>
    intro l0 hn hne
    obtain ⟨l, b, rfl⟩ : ∃ l b, l0 = l ++ [b] := by
      rcases List.eq_nil_or_concat l0 with h | ⟨l, b, h⟩
      · exact (hne h).elim
      · exact ⟨l, b, by simpa using h⟩
    have ih := ih0 l (by simp at hn; omega)
    intro hh hv
    rw [rdF_snoc b l 0 (by omega)] at hv ⊢
    by_cases hl : l = []
    · subst hl
      rw [show rdF 0 [] = 0 from rfl, if_neg (by omega)] at hv ⊢
      rw [rdF] at hv ⊢
      split at hv
      · rename_i hb
        rw [if_pos hb]
        rw [show rdF (10 * 0 + ((b.toNat : Int) - 48)) [] = (b.toNat : Int) - 48 by simp [rdF]]
        refine ⟨?_, by simp, ?_⟩
        · rw [dd_one (by omega)]
          rw [show ((b.toNat : Int) - 48).toNat = b.toNat - 48 by omega, b8 hb]
          rfl
        · intro h
          have : b.toNat ≠ 48 := by
            intro e
            apply h
            simp
            apply UInt8.toNat_inj.1
            rw [e]; rfl
          omega
      · exact (hv rfl).elim
    · have h48 : l.head? ≠ some 48 := by
        intro e
        have : (l ++ [b]).head? = some 48 := by
          cases l with
          | nil => exact (hl rfl).elim
          | cons x l => simpa using e
        have := hh this
        simp at this
        exact hl this
      split at hv
      · exact (hv rfl).elim
      · rename_i hl1
        obtain ⟨i1, i2, i3⟩ := ih hl (fun e => (h48 e).elim) hl1
        have hv1 := i3 h48
        rw [if_neg hl1]
        generalize rdF 0 l = v at *
        rw [rdF] at hv ⊢
        split at hv
        · rename_i hb
          rw [if_pos hb]
          rw [show rdF (10 * v + ((b.toNat : Int) - 48)) [] = 10 * v + ((b.toNat : Int) - 48) from rfl]
          refine ⟨?_, fun _ => by omega, fun _ => by omega⟩
          rw [dd_more (by omega)]
          have e1 : (10 * v + ((b.toNat : Int) - 48)).toNat / 10 = v.toNat := by omega
          have e2 : (10 * v + ((b.toNat : Int) - 48)).toNat % 10 = b.toNat - 48 := by omega
          rw [e1, e2, ← i1]
          rw [b8 hb]
        · exact (hv rfl).elim
theorem rdL_canon {l : List UInt8} (h : 0 ≤ rdL l) : l = Lib.decDigits (rdL l).toNat := by
  unfold rdL at h ⊢
  split at h
  · rename_i hk
    rw [if_pos hk]
    unfold rdOk at hk
    simp at hk
    obtain ⟨⟨h1, h2⟩, h3⟩ := hk
    refine (rdF_canon l (by rintro rfl; simp at h1) (fun e => ?_) (by omega)).1
    rcases h3 with h3 | h3
    · exact (h3 e).elim
    · omega
  · omega
theorem rdF_dig (n : Nat) : rdF 0 (Lib.decDigits n) = (n : Int) := by
  induction n using Nat.strongRecOn with
  | ind n ih =>
    by_cases h : n < 10
    · rw [dd_one h]
      have hd := dig_byte h
      rw [rdF, if_pos (by omega)]
      show 10 * 0 + _ = _
      omega
    · rw [dd_more h, rdF_snoc _ _ _ (by omega), ih (n / 10) (by omega), if_neg (by omega)]
      have hd := dig_byte (n := n % 10) (by omega)
      rw [rdF, if_pos (by omega)]
      show 10 * ((n / 10 : Nat) : Int) + _ = _
      omega
theorem dd_head (n : Nat) (h : n ≠ 0) : (Lib.decDigits n).head? ≠ some 48 := by
  induction n using Nat.strongRecOn with
  | ind n ih =>
    by_cases h1 : n < 10
    · rw [dd_one h1]
      intro e
      have hd := dig_byte h1
      simp at e
      rw [e] at hd
      simp at hd
      omega
    · rw [dd_more h1]
      have := ih (n / 10) (by omega) (by omega)
      cases e : Lib.decDigits (n / 10) with
      | nil => exact (dd_ne _ e).elim
      | cons x l => rw [e] at this; simpa using this
theorem rdL_dig {n : Nat} (h : n < 1000000) : rdL (Lib.decDigits n) = (n : Int) := by
  have hl := dd_len 5 n (by omega)
  have hk : rdOk (Lib.decDigits n) = true := by
    unfold rdOk
    have h0 : 1 ≤ (Lib.decDigits n).length := by
      cases e : Lib.decDigits n with
      | nil => exact (dd_ne _ e).elim
      | cons x l => simp
    rw [decide_eq_true (by omega)]
    by_cases hz : n = 0
    · subst hz
      rw [dd_one (by omega)]
      rfl
    · have := dd_head n hz
      have h2 : ((Lib.decDigits n).head? == some 48) = false := by simpa using this
      rw [h2]
      rfl
  rw [rdL, if_pos hk, rdF_dig]
end Go.Proofs.YtgobjobppajkbaaDoor
