/-
  ROWS OF PAIRS THAT LIE IN A STRETCH OF BLOCKS.
-/
import Derived.Test.YtbhmplccjaijjaaPairsM
namespace Go.Proofs.Ytbhmplccjaijjaa
open Go.RowKit
set_option linter.unusedVariables false

/-- A row of pairs that lies in blocks lo to hi - 1. -/
def PairsSt (w : World) (lo hi : Nat) (v : Value) (rs : List (Int × Int)) : Prop :=
  hi ≤ w.heap.size ∧ ∃ W0 : World, W0.heap.size = hi ∧ PairsAt W0 lo v rs ∧ ∀ g, lo ≤ g → g < hi → w.heap[g]? = W0.heap[g]?
theorem PairsAt.st {w : World} {lo : Nat} {v : Value} {rs : List (Int × Int)} (h : PairsAt w lo v rs) : PairsSt w lo w.heap.size v rs := ⟨Nat.le_refl _, w, rfl, h, fun _ _ _ => rfl⟩
theorem PairsSt.of {w w' : World} {lo hi : Nat} {v : Value} {rs : List (Int × Int)} (h : PairsSt w lo hi v rs) (hs : w.heap.size ≤ w'.heap.size) (he : ∀ g, lo ≤ g → g < hi → w'.heap[g]? = w.heap[g]?) : PairsSt w' lo hi v rs := by
  obtain ⟨h1, W0, h2, h3, h4⟩ := h
  exact ⟨Nat.le_trans h1 hs, W0, h2, h3, fun g a b => (he g a b).trans (h4 g a b)⟩
theorem PairsSt.kept {w w' : World} {lo hi : Nat} {v : Value} {rs : List (Int × Int)} (h : PairsSt w lo hi v rs) (hb : Below w.heap.size w w') : PairsSt w' lo hi v rs :=
  h.of hb.size (fun g _ hg => hb.block g (Nat.lt_of_lt_of_le hg h.1))
theorem PairsSt.touch {w w' : World} {lo hi lo' hi' : Nat} {v : Value} {rs : List (Int × Int)} (h : PairsSt w lo hi v rs) (ht : Touch lo' hi' w w') (hd : hi ≤ lo' ∨ hi' ≤ lo) : PairsSt w' lo hi v rs :=
  h.of ht.size (fun g h1 hg => ht.block g (Nat.lt_of_lt_of_le hg h.1) (by omega))
theorem PairsSt.toAt {w : World} {lo hi : Nat} {v : Value} {rs : List (Int × Int)} (h : PairsSt w lo hi v rs) : PairsAt w lo v rs := by
  obtain ⟨h1, W0, h2, ⟨bs, a1, a2, a3, a4⟩, h4⟩ := h
  refine ⟨bs, ?_, a2, a3, fun k b hk => ?_⟩
  · refine ⟨a1.1, ?_⟩
    rcases a1.2 with h5 | ⟨g, cap, cur, b1, b2, b3, b4⟩
    · exact .inl h5
    · have hg : g < W0.heap.size := (Array.getElem?_eq_some_iff.1 b3).1
      exact .inr ⟨g, cap, cur, b1, b2, (h4 g b2 (by omega)).trans b3, b4⟩
  · obtain ⟨c1, c2, c3⟩ := a4 k b hk
    exact ⟨c1, by omega, c3.of (h4 b c1 (by omega))⟩
theorem heldPairs_any (n : Nat) (v : Value) (lo hi : Nat) (w : World) (hl : n ≤ 300) (h : PairsSt w lo hi v (markP n)) :
    Calls Try.prog 36 #[v, .int .i64 1] w fun e w' => e = .returned (.int .i64 (2 * (n : Int) + 1)) ∧ Below w.heap.size w w' := by
  refine (heldIntSS_any n v lo w hl h.toAt).mono ?_
  rintro e w' ⟨rfl, rfl⟩
  exact ⟨rfl, Below.refl _ _⟩
end Go.Proofs.Ytbhmplccjaijjaa
