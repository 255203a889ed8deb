/-
  A PATH HANDED BACK: where there is one, and where there is none.
-/
import Derived.Test.YtponmblponfdaaaPath
import Derived.RangeFuncBox
namespace Go.Proofs.Ytponmblponfdaaa
open Go.RowKit
set_option linter.unusedVariables false

/-- A slice that holds the path of K steps. -/
def PathAt (w : World) (base g cap : Nat) (f : Int → Int) (n : Int) (K : Nat) : Prop :=
  w.ownsRow base 3 1 (.slice (some ⟨g, 0, none⟩) (K + 1) cap) (K + 1) ((pathL f n K).map (Value.int .i64))
theorem PathAt.cell {w : World} {base g cap : Nat} {f : Int → Int} {n : Int} {K : Nat} (h : PathAt w base g cap f n K) {j : Nat} (hj : j ≤ K) : w.cell? ⟨g, j, none⟩ = some (.int .i64 (itr f j n)) := by
  have := World.ownsRow.cellAt h j (by omega)
  rw [List.getElem?_map, pathL_at _ _ hj] at this
  exact this
theorem PathAt.kept {w w' : World} {base g cap : Nat} {f : Int → Int} {n : Int} {K : Nat} (h : PathAt w base g cap f n K) (hb : Below w.heap.size w w') : PathAt w' base g cap f n K := ownsRow_kept h hb
theorem PathAt.lt {w : World} {base g cap : Nat} {f : Int → Int} {n : Int} {K : Nat} (h : PathAt w base g cap f n K) : base ≤ g ∧ g < w.heap.size := World.ownsRow.lt h g rfl
theorem PathAt.cap {w : World} {base g cap : Nat} {f : Int → Int} {n : Int} {K : Nat} (h : PathAt w base g cap f n K) : K + 1 ≤ cap ∧ cap ≤ maxLen := by
  rcases h.2 with ⟨h', _⟩ | ⟨g', cap', cur, h', _, _, h1, h2, _⟩
  · simp at h'
  · simp only [Value.slice.injEq] at h'
    obtain ⟨_, _, rfl⟩ := h'
    exact ⟨h1, h2⟩
def YesPath (f : Int → Int) (n : Int) (K : Nat) (w : World) (e : Ending) (w' : World) : Prop :=
  ∃ g cap, e = .returned (.tuple #[.slice (some ⟨g, 0, none⟩) (K + 1) cap, .bool true]) ∧ PathAt w' w.heap.size g cap f n K ∧ Below w.heap.size w w'
theorem RetPath.yes {xs : List Int} {ok : Bool} {w w' : World} {e : Ending} {f : Int → Int} {n : Int} {K : Nat} (h : RetPath xs ok w e w') (hx : xs = pathL f n K) (ho : ok = true) : YesPath f n K w e w' := by
  subst hx ho
  obtain ⟨v, rfl, hrow, hb, _⟩ := h
  rw [IntsAt, pathL_length] at hrow
  obtain ⟨g, cap, rfl⟩ := ownsRow_succ hrow
  exact ⟨g, cap, rfl, hrow, hb⟩
theorem RetPath.no {xs : List Int} {ok : Bool} {w w' : World} {e : Ending} (h : RetPath xs ok w e w') (hx : xs = []) (ho : ok = false) : e = .returned (.tuple #[.slice none 0 0, .bool false]) ∧ Below w.heap.size w w' := by
  obtain ⟨v, rfl, hrow, hb, hn⟩ := h
  rw [hn hx, ho]
  exact ⟨rfl, hb⟩

theorem askB_iff {t p n k : Int} : askB t p n k = true ↔ goodB t p = true ∧ numB n = true ∧ 0 ≤ k ∧ k ≤ 1000 := by
  simp only [askB, inB, Bool.and_eq_true, decide_eq_true_eq, and_assoc]

end Go.Proofs.Ytponmblponfdaaa
