/-
  RESIDUES THAT ARE NEXT, REACHED, NEVER AND IN LOOPS: plain mathematics. No program.
-/
import Derived.Test.YtpfclanblcngfaaPutM
import Derived.Test.YtpfclanblcngfaaTreeM
namespace Go.Proofs.Ytpfclanblcngfaa
open Classical

/-- The residue behind a step from the first (i = 0) or the second (i = 1) number with a residue. -/
def nb (t p M r i : Int) : Int := nx t p (r + i * M) % M
theorem nb_range {t p M r i : Int} (hM : 0 < M) : 0 ≤ nb t p M r i ∧ nb t p M r i < M := ⟨Int.emod_nonneg _ (by omega), Int.emod_lt_of_pos _ hM⟩
/-- Both, increasing, each once. -/
def nbL (t p M r : Int) : List Int := if nb t p M r 1 = nb t p M r 0 then [nb t p M r 0] else putI (nb t p M r 1) [nb t p M r 0]
theorem mem_nbL {t p M r x : Int} : x ∈ nbL t p M r ↔ x = nb t p M r 0 ∨ x = nb t p M r 1 := by
  unfold nbL
  split
  · rename_i h; rw [h]; simp
  · rw [mem_putI]; simp; constructor <;> rintro (h | h) <;> simp [h]
theorem nbL_sorted (t p M r : Int) : (nbL t p M r).Pairwise (· < ·) := by
  unfold nbL
  split
  · simp
  · rename_i h; exact putI_sorted (by simp) (by simpa using h)
theorem nbL_len (t p M r : Int) : 1 ≤ (nbL t p M r).length ∧ (nbL t p M r).length ≤ 2 := by
  unfold nbL
  split
  · simp
  · rw [putI_length]; simp
/-- As the program tells them: sorted, each once. -/
theorem nbL_lt {t p M r : Int} (h : nb t p M r 0 < nb t p M r 1) : nbL t p M r = [nb t p M r 0, nb t p M r 1] := by
  rw [nbL, if_neg (by omega), putI_lt _ h, putI_nil]
theorem nbL_gt {t p M r : Int} (h : nb t p M r 1 < nb t p M r 0) : nbL t p M r = [nb t p M r 1, nb t p M r 0] := by
  rw [nbL, if_neg (by omega), putI_ge _ (by omega)]
theorem nbL_eq {t p M r : Int} (h : nb t p M r 1 = nb t p M r 0) : nbL t p M r = [nb t p M r 0] := by
  rw [nbL, if_pos h]

/-- What is reached from some residues. -/
inductive Rch (t p M : Int) (l : List Int) : Int → Prop
  | base {x : Int} : x ∈ l → Rch t p M l x
  | fst {x : Int} : Rch t p M l x → Rch t p M l (nb t p M x 0)
  | snd {x : Int} : Rch t p M l x → Rch t p M l (nb t p M x 1)
theorem Rch.nbL {t p M x y : Int} {l : List Int} (h : Rch t p M l x) (hy : y ∈ nbL t p M x) : Rch t p M l y := by
  rcases mem_nbL.1 hy with rfl | rfl
  · exact h.fst
  · exact h.snd
theorem Rch.range {t p M x : Int} {l : List Int} (hM : 0 < M) (hl : ∀ x ∈ l, 0 ≤ x ∧ x < M) (h : Rch t p M l x) : 0 ≤ x ∧ x < M := by
  cases h with
  | base h => exact hl x h
  | fst h => exact nb_range hM
  | snd h => exact nb_range hM
theorem Rch.mono {t p M x : Int} {l l' : List Int} (hl : ∀ x ∈ l, Rch t p M l' x) (h : Rch t p M l x) : Rch t p M l' x := by
  induction h with
  | base h => exact hl _ h
  | fst _ ih => exact ih.fst
  | snd _ ih => exact ih.snd
/-- A set with all of these, closed, of what is reached: just what is reached. -/
theorem rch_of_closed {t p M : Int} {l out : List Int} (h1 : ∀ x ∈ l, x ∈ out) (h2 : ∀ x ∈ out, Rch t p M l x) (h3 : ∀ x ∈ out, nb t p M x 0 ∈ out ∧ nb t p M x 1 ∈ out) (x : Int) : x ∈ out ↔ Rch t p M l x := by
  refine ⟨h2 x, fun h => ?_⟩
  induction h with
  | base h => exact h1 _ h
  | fst _ ih => exact (h3 _ ih).1
  | snd _ ih => exact (h3 _ ih).2
/-- What is reached, increasing. -/
noncomputable def rcL (t p : Int) (M : Nat) (l : List Int) : List Int := ((List.range M).map fun (i : Nat) => (i : Int)).filter fun x => decide (Rch t p M l x)
theorem mem_rcL {t p : Int} {M : Nat} {l : List Int} (hM : 0 < M) (hl : ∀ x ∈ l, 0 ≤ x ∧ x < (M : Int)) (x : Int) : x ∈ rcL t p M l ↔ Rch t p M l x := by
  unfold rcL
  rw [List.mem_filter, List.mem_map, decide_eq_true_eq]
  constructor
  · exact fun h => h.2
  · intro h
    have := h.range (by omega) hl
    exact ⟨⟨x.toNat, by rw [List.mem_range]; omega, by omega⟩, h⟩
theorem cast_sorted (n : Nat) : ((List.range n).map fun (i : Nat) => (i : Int)).Pairwise (· < ·) := by
  rw [List.pairwise_map]
  exact List.pairwise_lt_range.imp (fun h => by omega)
theorem rcL_sorted (t p : Int) (M : Nat) (l : List Int) : (rcL t p M l).Pairwise (· < ·) := (cast_sorted M).filter _
theorem rcL_len (t p : Int) (M : Nat) (l : List Int) : (rcL t p M l).length ≤ M := by
  have := List.length_filter_le (fun x => decide (Rch t p M l x)) ((List.range M).map fun (i : Nat) => (i : Int))
  rw [List.length_map, List.length_range] at this
  exact this
/-- Increasing lists with the same members are the same. -/
theorem sorted_ext : ∀ {xs ys : List Int}, xs.Pairwise (· < ·) → ys.Pairwise (· < ·) → (∀ x, x ∈ xs ↔ x ∈ ys) → xs = ys
  | [], [], _, _, _ => rfl
  | [], y :: ys, _, _, h => by have := (h y).2 (List.mem_cons_self ..); simp at this
  | x :: xs, [], _, _, h => by have := (h x).1 (List.mem_cons_self ..); simp at this
  | x :: xs, y :: ys, hx, hy, h => by
    rw [List.pairwise_cons] at hx hy
    have e : x = y := by
      rcases List.mem_cons.1 ((h x).1 (List.mem_cons_self ..)) with e | e
      · exact e
      · rcases List.mem_cons.1 ((h y).2 (List.mem_cons_self ..)) with e' | e'
        · exact e'.symm
        · have := hx.1 y e'; have := hy.1 x e; omega
    subst e
    rw [sorted_ext hx.2 hy.2 (fun z => ?_)]
    have hz := h z
    rw [List.mem_cons, List.mem_cons] at hz
    constructor
    · intro hm
      rcases hz.1 (.inr hm) with e | e
      · subst e; have := hx.1 z hm; omega
      · exact e
    · intro hm
      rcases hz.2 (.inr hm) with e | e
      · subst e; have := hy.1 z hm; omega
      · exact e
theorem sorted_len : ∀ {l : List Int} {a b : Int}, l.Pairwise (· < ·) → (∀ x ∈ l, a ≤ x ∧ x < b) → a ≤ b → (l.length : Int) ≤ b - a
  | [], a, b, _, _, h => by simp; omega
  | x :: xs, a, b, h, hl, hab => by
    rw [List.pairwise_cons] at h
    have h0 := hl x (List.mem_cons_self ..)
    have := sorted_len (a := x + 1) (b := b) h.2 (fun y hy => by have := h.1 y hy; have := hl y (List.mem_cons_of_mem _ hy); omega) (by omega)
    rw [List.length_cons]
    omega
theorem srt_strict {l : List Int} (h : l.Nodup) : (srtI l).Pairwise (· < ·) := by
  have h1 := srt_sorted l
  have h2 : (srtI l).Nodup := (srt_perm l).nodup_iff.2 h
  exact (h1.and h2).imp (fun ⟨a, b⟩ => by omega)
/-- A list without a number twice, of residues, is no longer than these are many. -/
theorem nodup_len {l : List Int} {M : Nat} (h : l.Nodup) (hl : ∀ x ∈ l, 0 ≤ x ∧ x < (M : Int)) : l.length ≤ M := by
  have := sorted_len (a := 0) (b := (M : Int)) (srt_strict h) (fun x hx => hl x (mem_srt.1 hx)) (by omega)
  rw [srt_length] at this
  omega
/-- What a list without a number twice sorts to. -/
theorem srt_set {xs ys : List Int} (hn : xs.Nodup) (hy : ys.Pairwise (· < ·)) (h : ∀ x, x ∈ xs ↔ x ∈ ys) : srtI xs = ys := by
  refine srt_eq (hy.imp (fun h => by omega)) ?_
  exact (List.perm_ext_iff_of_nodup hn (hy.imp (fun h => by omega))).2 h
/-- What no residue comes to. -/
noncomputable def isN (t p : Int) (M : Nat) (x : Int) : Bool := decide (∃ r : Int, 0 ≤ r ∧ r < M ∧ (x = nb t p M r 0 ∨ x = nb t p M r 1))
/-- Is it reached again? -/
noncomputable def isL (t p : Int) (M : Nat) (x : Int) : Bool := decide (Rch t p M [nb t p M x 0, nb t p M x 1] x)
theorem rch_pair (t p M x y : Int) : Rch t p M (nbL t p M x) y ↔ Rch t p M [nb t p M x 0, nb t p M x 1] y := by
  constructor
  · exact fun h => h.mono (fun z hz => .base (by rcases mem_nbL.1 hz with e | e <;> simp [e]))
  · exact fun h => h.mono (fun z hz => .base (mem_nbL.2 (by simpa using hz)))
end Go.Proofs.Ytpfclanblcngfaa
