/-
  A ROW OF INTEGERS HANDED BACK: it lies in a stretch of blocks.
-/
import Derived.Test.YtkikmmnmppikpaaMarkK
namespace Go.Proofs.Ytkikmmnmppikpaa
open Go.RowKit
set_option linter.unusedVariables false

/-- A slice of integers in a block from lo on, below hi, if it is not empty. -/
def RowAt (w : World) (lo hi : Nat) (v : Value) (xs : List Int) : Prop := hi ≤ w.heap.size ∧ ∃ a c, v = .slice a xs.length c ∧ RowIn w lo hi a xs
theorem RowAt.of {w w' : World} {lo hi : Nat} {v : Value} {xs : List Int} (h : RowAt w lo hi v xs) (hs : w.heap.size ≤ w'.heap.size) (he : ∀ g, lo ≤ g → g < hi → w'.heap[g]? = w.heap[g]?) : RowAt w' lo hi v xs := by
  obtain ⟨h1, a1, c1, rfl, h2⟩ := h
  exact ⟨Nat.le_trans h1 hs, a1, c1, rfl, h2.of he⟩
theorem RowAt.kept {w w' : World} {lo hi : Nat} {v : Value} {xs : List Int} (h : RowAt w lo hi v xs) (hb : Below w.heap.size w w') : RowAt w' lo hi v xs :=
  h.of hb.size (fun g _ hg => hb.block g (Nat.lt_of_lt_of_le hg h.1))
theorem RowAt.touch {w w' : World} {lo hi lo' hi' : Nat} {v : Value} {xs : List Int} (h : RowAt w lo hi v xs) (ht : Touch lo' hi' w w') (hd : hi ≤ lo' ∨ hi' ≤ lo) : RowAt w' lo hi v xs :=
  h.of ht.size (fun g h1 hg => ht.block g (Nat.lt_of_lt_of_le hg h.1) (by omega))
theorem RowAt.isIn {w : World} {lo hi : Nat} {v : Value} {xs : List Int} (h : RowAt w lo hi v xs) : IntsIn w v xs := by
  obtain ⟨h1, a1, c1, rfl, h2⟩ := h
  exact h2.isIn h1
/-- What a function that makes a row hands back. -/
def RetRow (xs : List Int) (ok : Bool) (w : World) (e : Ending) (w' : World) : Prop :=
  ∃ v, e = .returned (.tuple #[v, .bool ok]) ∧ RowAt w' w.heap.size w'.heap.size v xs ∧ Below w.heap.size w w'
theorem IntsAt.rowAt {w : World} {B : Nat} {v : Value} {xs : List Int} (h : IntsAt w B v xs) : RowAt w B w.heap.size v xs := by
  obtain ⟨a, c, rfl, h2⟩ := h.rowIn
  exact ⟨Nat.le_refl _, a, c, rfl, h2⟩
theorem rowAt_nil (w : World) (B : Nat) : RowAt w B w.heap.size (.slice none 0 0) [] := (intsAt_nil w B).rowAt
theorem RowAt.low {w : World} {lo lo' hi : Nat} {v : Value} {xs : List Int} (h : RowAt w lo hi v xs) (hl : lo' ≤ lo) : RowAt w lo' hi v xs := by
  obtain ⟨h1, a1, c1, rfl, h2⟩ := h
  exact ⟨h1, a1, c1, rfl, h2.wide hl (Nat.le_refl _)⟩
theorem markRow_any (xs : List Int) (v : Value) (lo hi : Nat) (w : World) (hl : xs.length ≤ 1048576) (h : RowAt w lo hi v xs) :
    Calls Try.prog 73 #[v, .int .i64 1] w fun e w' => e = .returned (.int .i64 (1 + (xs.length : Int))) ∧ Touch lo hi w w' ∧ RowAt w' lo hi v (markK 1 xs.length) := by
  obtain ⟨hh, a, c, rfl, q⟩ := h
  refine (markIntS_k xs 1 lo hi a c w (by omega) (by omega) hh hl q).mono ?_
  rintro e w' ⟨rfl, ht, _, hr⟩
  exact ⟨rfl, ht, Nat.le_trans hh ht.size, a, c, by rw [markK_length], hr⟩
theorem heldRow_any (n : Nat) (v : Value) (lo hi : Nat) (w : World) (hl : n ≤ 1048576) (h : RowAt w lo hi v (markK 1 n)) :
    Calls Try.prog 74 #[v, .int .i64 1] w fun e w' => e = .returned (.int .i64 (1 + (n : Int))) ∧ Below w.heap.size w w' := by
  obtain ⟨hh, a, c, rfl, q⟩ := h
  rw [markK_length]
  refine (heldIntS_k n 1 lo hi a c w (by omega) (by omega) hh hl q).mono ?_
  rintro e w' ⟨rfl, rfl⟩
  exact ⟨rfl, Below.refl _ _⟩
end Go.Proofs.Ytkikmmnmppikpaa
