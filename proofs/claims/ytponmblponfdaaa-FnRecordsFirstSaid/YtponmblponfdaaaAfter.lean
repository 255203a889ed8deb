/-
  'after': what is behind so many steps of a walk.
  'NextNumber', 'ShortNext', 'NumberAfter', 'ShortAfter' of the program; 'NextNumber', 'ShortNext', 'ShortAfter' of the model.
-/
import Derived.Test.YtponmblponfdaaaRange
import Derived.Test.YtponmblponfdaaaAft
namespace Go.Proofs.Ytponmblponfdaaa
open Go.RowKit Go.Shelf
attribute [local go_sem] Oper.semAt_some
set_option linter.unusedVariables false

/-- What is found behind k steps. -/
def found (S : List (Int × Int)) (k : Int) : Int × Bool :=
  match S.find? (fun x => x.1 == k) with
  | some x => (x.2, true)
  | none => (0, false)
theorem found_none {S : List (Int × Int)} {k : Int} (h : ∀ x ∈ S, x.1 ≠ k) : found S k = (0, false) := by
  have : S.find? (fun x => x.1 == k) = none := by rw [List.find?_eq_none]; intro x hx; simpa using h x hx
  rw [found, this]
theorem found_some {S pre : List (Int × Int)} {k v : Int} (h : ∀ x ∈ pre, x.1 ≠ k) (hp : (pre ++ [(k, v)]) <+: S) : found S k = (v, true) := by
  obtain ⟨rest, rfl⟩ := hp
  have : ((pre ++ [(k, v)]) ++ rest).find? (fun x => x.1 == k) = some (k, v) := by
    have hn : pre.find? (fun x => x.1 == k) = none := by rw [List.find?_eq_none]; intro x hx; simpa using h x hx
    rw [List.append_assoc, List.find?_append, hn]; simp
  rw [found, this]

/-- The cells of a call of 'after': its argument 'steps' and its two results. -/
def AfterCells (B : Nat) (k : Int) (rv ov : Value) (W : World) : Prop :=
  W.cell? ⟨B + 1, 0, none⟩ = some (.int .i64 k) ∧ W.cell? ⟨B + 1 + 1, 0, none⟩ = some rv ∧ W.frozen? ⟨B + 1 + 1, 0, none⟩ = false ∧
  W.cell? ⟨B + 1 + 1 + 1, 0, none⟩ = some ov ∧ W.frozen? ⟨B + 1 + 1 + 1, 0, none⟩ = false ∧ B + 6 ≤ W.heap.size
theorem AfterCells.below {B : Nat} {k : Int} {rv ov : Value} {A C : World} (h : AfterCells B k rv ov A) {N : Nat} (hN : B + 4 ≤ N) (hb : Below N A C) : AfterCells B k rv ov C := by
  obtain ⟨h1, h2, h3, h4, h5, h6⟩ := h
  refine ⟨(hb.cell (p := ⟨B + 1, 0, none⟩) ?_).trans h1, (hb.cell (p := ⟨B + 1 + 1, 0, none⟩) ?_).trans h2, (hb.frozen (p := ⟨B + 1 + 1, 0, none⟩) ?_).trans h3, (hb.cell (p := ⟨B + 1 + 1 + 1, 0, none⟩) ?_).trans h4, (hb.frozen (p := ⟨B + 1 + 1 + 1, 0, none⟩) ?_).trans h5, Nat.le_trans h6 hb.size⟩ <;> (dsimp only; omega)

end Go.Proofs.Ytponmblponfdaaa

namespace Go.Proofs.Ytponmblponfdaaa
open Go.RowKit Go.Shelf
set_option linter.unusedVariables false

theorem found_seq (t p : Int) (f : Int → Int) (n k : Int) : found (seqOf t p f n) k = aft t p f n k := by
  unfold aft
  by_cases h : askB t p n k = true ∧ allB f n (k.toNat + 1) = true
  · rw [if_pos h]
    obtain ⟨ha, hl⟩ := h
    simp only [askB, inB, Bool.and_eq_true, decide_eq_true_eq] at ha
    have hlt : k.toNat < cntF f 1001 n := (lt_cnt _ _ _ _).2 ⟨by omega, hl⟩
    have hk : k = (k.toNat : Int) := by omega
    have hp : (upto f n k.toNat ++ [(k, itr f k.toNat n)]) <+: seqOf t p f n := by
      rw [seqOf, if_pos ha.1.1]
      have := upto_prefix f n (j := k.toNat + 1) (k := cntF f 1001 n) (by omega)
      rw [upto_succ, ← hk] at this
      exact this
    refine found_some ?_ hp
    intro x hx
    obtain ⟨j, hj, rfl⟩ := mem_upto hx
    dsimp only
    omega
  · rw [if_neg h]
    refine found_none ?_
    intro x hx hk
    unfold seqOf at hx
    split at hx
    · rename_i hg
      obtain ⟨j, hj, rfl⟩ := mem_upto hx
      have hj' := (lt_cnt _ _ _ _).1 hj
      dsimp only at hk
      obtain rfl : j = k.toNat := by omega
      refine h ⟨?_, hj'.2⟩
      have hn : numB n = true := allB_at (f := f) (n := n) (j := 0) (k := k.toNat + 1) (by omega) hj'.2
      simp only [askB, inB, Bool.and_eq_true, decide_eq_true_eq]
      exact ⟨⟨hg, hn⟩, by omega⟩
    · simp at hx

end Go.Proofs.Ytponmblponfdaaa
