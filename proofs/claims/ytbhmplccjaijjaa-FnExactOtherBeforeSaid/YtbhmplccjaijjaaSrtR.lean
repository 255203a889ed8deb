/-
  slices.Sort OF A ROW OF THE CALL's OWN.
-/
import Derived.Test.YtbhmplccjaijjaaRowAt
import Derived.Test.YtbhmplccjaijjaaTreeN
import Derived.Test.YtbhmplccjaijjaaShelf
import Derived.Shelf.SortM.Plain
import Derived.Shelf.SortM.SortNone
import Derived.Sort.OwnSortedInts
namespace Go.Proofs.Ytbhmplccjaijjaa
open Go.RowKit
set_option linter.unusedVariables false

theorem IntRow.holds {w : World} {g : Nat} {xs : List Int} (h : IntRow w g xs) : Sort.Holds (Value.int .i64) w g 0 xs.toArray := by
  intro j hj
  have hj' : j < xs.length := by simpa using hj
  rw [Nat.zero_add]
  have e : xs.toArray[j]! = xs.getD j 0 := by
    rw [getElem!_pos _ j hj]
    simp [List.getD_eq_getElem?_getD, hj']
  rw [e]
  exact h j hj'
theorem holds_row {w : World} {g : Nat} {xs : List Int} (h : Sort.Holds (Value.int .i64) w g 0 xs.toArray) : IntRow w g xs := by
  intro j hj
  have hj' : j < xs.toArray.size := by simpa using hj
  have := h j hj'
  rw [Nat.zero_add] at this
  have e : xs.toArray[j]! = xs.getD j 0 := by
    rw [getElem!_pos _ j hj']
    simp [List.getD_eq_getElem?_getD, hj]
  rw [e] at this
  exact this
theorem touch_of_grown {w w' : World} {lo hi g : Nat} (h : w.grownBy w' (some g)) (h1 : lo ≤ g) (h2 : g < hi) : Touch lo hi w w' :=
  ⟨h.os, h.tape, h.output, h.size, fun k hk hr => h.block k hk (by intro e; have : k = g := Option.some.inj e; omega)⟩
theorem sortRow_any (xs : List Int) (v : Value) (lo hi : Nat) (w : World) (hl : xs.length ≤ 1048576) (h : RowAt w lo hi v xs) :
    Calls Try.prog 71 #[v] w fun e w' => e = .returned (.tuple #[]) ∧ Touch lo hi w w' ∧ RowAt w' lo hi v (srtI xs) := by
  obtain ⟨hh, a, c, rfl, hr⟩ := h
  by_cases hn : xs = []
  · subst hn
    refine (AnyM.slices_Sort_int_none Try.sortB a c w).mono ?_
    rintro e w' ⟨rfl, rfl⟩
    exact ⟨rfl, Touch.refl _ _ _, hh, a, c, by rw [srt_short (by simp)], fun h => (h (srt_short (by simp))).elim⟩
  · obtain ⟨g, rfl, g1, g2, g3⟩ := hr hn
    refine (AnyM.slices_Sort_int Try.sortB g 0 c xs w g3.holds (by omega) (by omega)).mono ?_
    rintro e w' ⟨rfl, n, os, rfl⟩
    have hgr := Go.grownBy_sortedI (w := w) (g := g) (n := n) (os := os) (xs.mergeSort fun x y => decide (x ≤ y)).toArray
    have hlen : (srtI xs).length = xs.length := srt_length xs
    refine ⟨rfl, touch_of_grown hgr g1 g2, Nat.le_trans hh hgr.size, some ⟨g, 0, none⟩, c, by rw [hlen], fun _ => ⟨g, rfl, g1, g2, ?_⟩⟩
    refine holds_row ?_
    have h1 := Sort.holds_putRow (Value.int .i64) (Sort.ahead w n) g 0 xs.toArray (srtI xs).toArray (Sort.holds_ahead _ _ _ _ _ _ g3.holds) (by simp [hlen])
    exact Sort.holds_grow _ _ _ _ _ _ (by simpa using Nat.lt_of_lt_of_le g2 hh) h1
end Go.Proofs.Ytbhmplccjaijjaa
