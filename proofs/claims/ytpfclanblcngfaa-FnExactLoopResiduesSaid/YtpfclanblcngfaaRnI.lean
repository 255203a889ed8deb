/-
  'ResiduesNext' of both: an array of two sorted and compacted in place.
-/
import Derived.Test.YtpfclanblcngfaaRn
import Derived.Test.YtpfclanblcngfaaLists
import Derived.Test.YtpfclanblcngfaaShelf
import Derived.Shelf.SortM.Plain
import Derived.Shelf.Slices.CompactI
import Derived.Sort.OwnSortedInts
namespace Go.Proofs.Ytpfclanblcngfaa
open Go.RowKit
set_option linter.unusedVariables false

theorem holds_two {W : World} {g : Nat} {a b : Int} (h : TwoAt W g a b) : Sort.Holds (Value.int .i64) W g 0 #[a, b] := by
  intro j hj
  have : j = 0 ∨ j = 1 := by simp at hj; omega
  rcases this with rfl | rfl
  · exact ⟨h.c0, h.f0⟩
  · exact ⟨h.c1, h.f1⟩
theorem two_holds {W : World} {g : Nat} {a b : Int} (h : Sort.Holds (Value.int .i64) W g 0 #[a, b]) (hg : g < W.heap.size) : TwoAt W g a b :=
  ⟨(h 0 (by simp)).1, (h 1 (by simp)).1, (h 0 (by simp)).2, (h 1 (by simp)).2, hg⟩
theorem sort_two (a b : Int) : [a, b].mergeSort (fun x y => decide (x ≤ y)) = [min a b, max a b] := by
  by_cases h : a ≤ b
  · rw [Int.min_eq_left h, Int.max_eq_right h]
    exact List.mergeSort_of_pairwise (by simp [h])
  · rw [Int.min_eq_right (by omega), Int.max_eq_left (by omega)]
    exact sorted_ms (by simp; omega) (List.Perm.swap _ _ _)
theorem compact_two (a b : Int) : Lib.compact [a, b] = if a = b then [a] else [a, b] := by
  show Lib.compactUpTo #[a, b] 2 = _
  rw [Lib.compactUpTo_succ, Lib.compactUpTo_succ]
  by_cases h : a = b
  · subst h; simp [Lib.compactUpTo, Lib.keeps]
  · simp [Lib.compactUpTo, Lib.keeps, h]; exact fun e => h e.symm
/-- The array is sorted. -/
theorem sort_any (g : Nat) (a b : Int) (w : World) (h : TwoAt w g a b) :
    Calls Try.prog 25 #[.slice (some ⟨g, 0, none⟩) 2 2] w fun e w' => e = .returned (.tuple #[]) ∧ TwoAt w' g (min a b) (max a b) ∧ w.grownBy w' (some g) := by
  refine (AnyM.slices_Sort_int Try.sortB g 0 2 [a, b] w (holds_two h) h.lt (by simp)).mono ?_
  rintro e w' ⟨rfl, n, os, rfl⟩
  refine ⟨rfl, ?_, Go.grownBy_sortedI _⟩
  rw [sort_two]
  have h1 := Sort.holds_putRow (Value.int .i64) (Sort.ahead w n) g 0 #[a, b] #[min a b, max a b] (Sort.holds_ahead _ _ _ _ _ _ (holds_two h)) rfl
  exact two_holds (Sort.holds_grow _ _ _ _ _ _ (by simpa using h.lt) h1) (by have := h.lt; simp; omega)
/-- A list of integers that lies somewhere new is handed back. -/
def RetIn (xs : List Int) (ok : Bool) (w : World) (e : Ending) (w' : World) : Prop :=
  ∃ v, e = .returned (.tuple #[v, .bool ok]) ∧ IntsIn w' v xs ∧ (∀ g, v.ownBlock = some g → w.heap.size ≤ g ∧ g < w'.heap.size) ∧ Below w.heap.size w w'
theorem retIn_none {xs : List Int} {ok : Bool} {w w' : World} (h : xs = []) (h' : ok = false) (hb : Below w.heap.size w w') : RetIn xs ok w (.returned (.tuple #[.slice none 0 0, .bool false])) w' := by
  subst h h'
  exact ⟨_, rfl, ⟨none, 0, rfl, fun h => (h rfl).elim⟩, fun g h => by simp [Value.ownBlock] at h, hb⟩
/-- It is compacted. -/
theorem compact_any (g : Nat) (a b : Int) (w : World) (h : TwoAt w g a b) :
    Calls Try.prog 26 #[.slice (some ⟨g, 0, none⟩) 2 2] w fun e w' => ∃ v, e = .returned v ∧ IntsIn w' v (if a = b then [a] else [a, b]) ∧ v.ownBlock = some g ∧ w'.heap.size = w.heap.size ∧ w.grownBy w' (some g) := by
  refine (Any.slices_Compact_int Try.compactB g 0 2 [a, b] w (holds_two h) (by simp) (by simp)).mono ?_
  rintro e w' ⟨rfl, q, rfl⟩
  rw [compact_two]
  have hg0 := h.lt
  have hgrow : ∀ d : Array Int, w.grownBy (Sort.putRow (Value.int .i64) (Sort.ahead w q) g 0 d) (some g) := fun d => by
    have := Go.grownBy_sortedI (w := w) (g := g) (n := q) (os := #[]) d
    rw [Sort.grow_empty] at this
    exact this
  by_cases hab : a = b
  · subst hab
    rw [if_pos rfl]
    have h1 := Sort.holds_putRow (Value.int .i64) (Sort.ahead w q) g 0 #[a, a] #[a, 0] (Sort.holds_ahead _ _ _ _ _ _ (holds_two h)) rfl
    have h2 := two_holds h1 (by simpa using hg0)
    refine ⟨_, rfl, ⟨_, _, rfl, fun _ => ⟨g, rfl, h2.lt, ?_⟩⟩, rfl, by simp [Sort.ahead], hgrow _⟩
    intro j hj
    obtain rfl : j = 0 := by simp at hj; omega
    exact ⟨h2.c0, h2.f0⟩
  · rw [if_neg hab]
    have h1 := Sort.holds_putRow (Value.int .i64) (Sort.ahead w q) g 0 #[a, b] #[a, b] (Sort.holds_ahead _ _ _ _ _ _ (holds_two h)) rfl
    have h2 := two_holds h1 (by simpa using hg0)
    refine ⟨_, rfl, ⟨_, _, rfl, fun _ => ⟨g, rfl, h2.lt, ?_⟩⟩, rfl, by simp [Sort.ahead], hgrow _⟩
    intro j hj
    have : j = 0 ∨ j = 1 := by simp at hj; omega
    rcases this with rfl | rfl
    · exact ⟨h2.c0, h2.f0⟩
    · exact ⟨h2.c1, h2.f1⟩
theorem nbL_mm (t p M r : Int) : (if min (nb t p M r 0) (nb t p M r 1) = max (nb t p M r 0) (nb t p M r 1) then [min (nb t p M r 0) (nb t p M r 1)] else [min (nb t p M r 0) (nb t p M r 1), max (nb t p M r 0) (nb t p M r 1)]) = nbL t p M r := by
  rcases Int.lt_trichotomy (nb t p M r 0) (nb t p M r 1) with h | h | h
  · rw [Int.min_eq_left (by omega), Int.max_eq_right (by omega), if_neg (by omega), nbL_lt h]
  · rw [← h, Int.min_self, Int.max_self, if_pos rfl, nbL_eq h.symm]
  · rw [Int.min_eq_right (by omega), Int.max_eq_left (by omega), if_neg (by omega), nbL_gt h]

/-- Are there a map, a modulus and a residue? -/
def askM (t p M r : Int) : Bool := goodB t p && (inB M 1 60 && inB r 0 (M - 1))
def nxA (t p M r : Int) : List Int := if askM t p M r = true then nbL t p M r else []
theorem nxA_len (t p M r : Int) : (nxA t p M r).length ≤ 1000000000000 := by
  unfold nxA
  split
  · exact Nat.le_trans (nbL_len t p M r).2 (by decide)
  · simp
theorem isModulus_any (k : Int) (w : World) :
    Calls Try.prog 31 #[.int .i64 k] w fun e w' => e = .returned (.bool (inB k 1 60)) ∧ w = w' := by
  by_cases h1 : 1 ≤ k <;> by_cases h2 : k ≤ 60
  all_goals
    go_enter Try.func31, Try.ntmps31
    go_wp2
    go_ret
    simp [inB, *]
theorem isResidue_any (r k : Int) (w : World) :
    Calls Try.prog 23 #[.int .i64 r, .int .i64 k] w fun e w' => e = .returned (.bool (inB k 1 60 && inB r 0 (k - 1))) ∧ w = w' := by
  have HM := Lib.hid (fun w => isModulus_any k w)
  cases hk : inB k 1 60
  · rw [hk] at HM
    clear hk
    go_enter Try.func23, Try.ntmps23
    go_wp2_with (go_at_call 31; refine (HM.out _).mono ?_; rintro e w' ⟨rfl, rfl⟩)
    go_ret
    exact ⟨rfl, rfl⟩
  · rw [hk] at HM
    have HE : Hid (inB r 0 (k - 1) = (decide (0 ≤ r) && decide (r < k))) := Lib.hid (by rw [Bool.eq_iff_iff]; simp [inB]; omega)
    clear hk
    by_cases h1 : 0 ≤ r <;> by_cases h2 : r < k
    all_goals
      go_enter Try.func23, Try.ntmps23
      go_wp2_with (go_at_call 31; refine (HM.out _).mono ?_; rintro e w' ⟨rfl, rfl⟩)
      go_ret
      exact ⟨ret_bool (by rw [HE.out]; simp [*]), rfl⟩
theorem rsModulus_any (t p k : Int) (w : World) :
    Calls Try.prog 19 #[.agg #[.int .i64 t, .int .i64 p], .int .i64 k] w fun e w' => e = .returned (.bool (goodB t p && inB k 1 60)) ∧ Below w.heap.size w w' := by
  have HM := Lib.hid (fun w => mpGood_any t p w)
  cases hg : goodB t p
  all_goals
    rw [hg] at HM
    clear hg
    go_enter Try.func19, Try.ntmps19
    go_wp2_with fail
    refine (HM.out _).mono ?_
    rintro e w1 ⟨rfl, hb1⟩
    obtain ⟨c0, c1, hz, hb⟩ := map_block hb1
    clear hb1
    go_wp2_with (go_at_call 20; refine (l1In_any _ _ _ _).mono ?_; rintro e w' ⟨rfl, rfl⟩)
    go_ret
    exact ⟨rfl, hb⟩
end Go.Proofs.Ytpfclanblcngfaa
