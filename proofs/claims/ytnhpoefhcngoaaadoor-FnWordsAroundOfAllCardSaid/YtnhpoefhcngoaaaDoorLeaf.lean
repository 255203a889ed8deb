/-
  THE LEAVES OF CHAPTER 1: the small functions of the model and of the program that only reckon with numbers.
-/
import Derived.Test.YtnhpoefhcngoaaaDoorRows
import Derived.Test.YtnhpoefhcngoaaaDoorMath
import Derived.WalkKit
import Derived.WalkSpells
import Derived.Lib.Hide
import Derived.BigQuiet
import Derived.Deep.QuietTactic
namespace Go.Proofs.YtnhpoefhcngoaaaDoor
open Go.RowKit
set_option linter.unusedVariables false

theorem ret_bool {a b : Bool} (h : a = b) : Ending.returned (.bool a) = .returned (.bool b) := by rw [h]
theorem ret_int {a b : Int} (h : a = b) : Ending.returned (.int .i64 a) = .returned (.int .i64 b) := by rw [h]

theorem ret_pair {x : Int × Bool} {a : Int} {b : Bool} (h : x = (a, b)) : Ending.returned (.tuple #[.int .i64 a, .bool b]) = .returned (.tuple #[.int .i64 x.1, .bool x.2]) := by rw [h]

/-- Is n in lo..hi? -/
def inB (n lo hi : Int) : Bool := decide (lo ≤ n ∧ n ≤ hi)
theorem l1In_any (n lo hi : Int) (w : World) :
    Calls Tryd.prog 39 #[.int .i64 n, .int .i64 lo, .int .i64 hi] w fun e w' => e = .returned (.bool (inB n lo hi)) ∧ w = w' := by
  by_cases h1 : lo ≤ n <;> by_cases h2 : n ≤ hi
  all_goals
    go_enter Tryd.func39, Tryd.ntmps39
    go_wp2
    go_ret
    simp [inB, *]

theorem tmod2 (n : Int) : (0 ≤ n ∧ n.tmod 2 = n % 2) ∨ (n < 0 ∧ n.tmod 2 = -(n % 2)) := by
  rw [Int.tmod_eq_emod]
  split <;> omega

/-- Is n odd? -/
def oddB (n : Int) : Bool := decide (n % 2 ≠ 0)
theorem oddB_tmod (n : Int) : (n.tmod 2 != 0) = oddB n := by
  unfold oddB
  rw [Bool.eq_iff_iff]
  simp only [bne_iff_ne, ne_eq, decide_eq_true_eq]
  rw [Int.tmod_eq_emod]
  split <;> omega
theorem even_tmod (n : Int) : (n.tmod 2 == 0) = !oddB n := by
  rw [← oddB_tmod, bne, Bool.not_not]

theorem isOdd_any (n : Int) (w : World) :
    Calls Tryd.prog 48 #[.int .i64 n] w fun e w' => e = .returned (.bool (oddB n)) ∧ w = w' := by
  go_enter Tryd.func48, Tryd.ntmps48
  go_wp2
  go_ret
  exact ⟨by rw [← oddB_tmod]; rfl, rfl⟩

theorem isNumber_any (n : Int) (w : World) :
    Calls Tryd.prog 62 #[.int .i64 n] w fun e w' => e = .returned (.bool (numB n)) ∧ w = w' := by
  unfold numB
  by_cases h1 : -1000000000000 ≤ n <;> by_cases h2 : n ≤ 1000000000000
  all_goals
    go_enter Tryd.func62, Tryd.ntmps62
    go_wp2
    go_ret
    simp [*]


theorem isMap_any (t p : Int) (w : World) :
    Calls Tryd.prog 25 #[.agg #[.int .i64 t, .int .i64 p]] w fun e w' => e = .returned (.bool (goodB t p)) ∧ Below w.heap.size w w' := by
  go_enter Tryd.func25, Tryd.ntmps25
  go_wp2_with (go_at_call 48; refine (isOdd_any _ _).mono ?_; rintro e w' ⟨rfl, rfl⟩)
  all_goals
    go_ret
    refine ⟨ret_bool ?_, (Below.refl _ _).alloc (Nat.le_refl _) _⟩
    rw [Bool.eq_iff_iff, goodB_iff]
    simp only [oddB, decide_eq_true_eq, Bool.false_eq_true, false_iff] at *
    omega

theorem mpGood_any (t p : Int) (w : World) :
    Calls Tryd.prog 27 #[.agg #[.int .i64 t, .int .i64 p]] w fun e w' => e = .returned (.bool (goodB t p)) ∧ Below w.heap.size w w' := by
  go_enter Tryd.func27, Tryd.ntmps27
  go_wp2_with (go_at_call 39; refine (l1In_any _ _ _ _).mono ?_; rintro e w' ⟨rfl, rfl⟩)
  all_goals
    go_ret
    refine ⟨ret_bool ?_, (Below.refl _ _).alloc (Nat.le_refl _) _⟩
    rw [Bool.eq_iff_iff, goodB_iff]
    simp only [inB, decide_eq_true_eq, Bool.false_eq_true, false_iff, bne_iff_ne, ne_eq] at *
    have := tmod2 t
    have := tmod2 p
    omega

/-- What a call that makes memory has left as it was. -/
theorem bcell {W w1 : World} (hb : Below W.heap.size W w1) : (∀ b o, b < W.heap.size → w1.cell? ⟨b, o, none⟩ = W.cell? ⟨b, o, none⟩) ∧ (∀ b o, b < W.heap.size → w1.frozen? ⟨b, o, none⟩ = W.frozen? ⟨b, o, none⟩) :=
  ⟨fun b o h => hb.cell (p := ⟨b, o, none⟩) h, fun b o h => hb.frozen (p := ⟨b, o, none⟩) h⟩

theorem kept_cell {W w1 : World} (hb : Below W.heap.size W w1) {b o : Nat} (hl : b < W.heap.size) {v : Value} (h : W.cell? ⟨b, o, none⟩ = some v) : w1.cell? ⟨b, o, none⟩ = some v := (hb.cell (p := ⟨b, o, none⟩) hl).trans h
theorem kept_free {W w1 : World} (hb : Below W.heap.size W w1) {b o : Nat} (hl : b < W.heap.size) (h : W.frozen? ⟨b, o, none⟩ = false) : w1.frozen? ⟨b, o, none⟩ = false := (hb.frozen (p := ⟨b, o, none⟩) hl).trans h

/-- Two blocks of three cells, laid one behind the other, are there behind a call that only makes memory. -/
theorem two_blocks {w w1 : World} {a b c a' b' c' : Value} {T T' : TypeId}
    (hb : Below ((w.alloc (.cells #[a, b, c] T)).alloc (.cells #[a', b', c'] T')).heap.size ((w.alloc (.cells #[a, b, c] T)).alloc (.cells #[a', b', c'] T')) w1) :
    (w1.cell? ⟨w.heap.size, 0, none⟩ = some a ∧ w1.cell? ⟨w.heap.size, 1, none⟩ = some b ∧ w1.cell? ⟨w.heap.size, 2, none⟩ = some c) ∧
    (w1.frozen? ⟨w.heap.size, 0, none⟩ = false ∧ w1.frozen? ⟨w.heap.size, 1, none⟩ = false ∧ w1.frozen? ⟨w.heap.size, 2, none⟩ = false) ∧
    (w1.cell? ⟨w.heap.size + 1, 0, none⟩ = some a' ∧ w1.cell? ⟨w.heap.size + 1, 1, none⟩ = some b' ∧ w1.cell? ⟨w.heap.size + 1, 2, none⟩ = some c') ∧
    (w1.frozen? ⟨w.heap.size + 1, 0, none⟩ = false ∧ w1.frozen? ⟨w.heap.size + 1, 1, none⟩ = false ∧ w1.frozen? ⟨w.heap.size + 1, 2, none⟩ = false) ∧
    w.heap.size + 1 < w1.heap.size := by
  obtain ⟨hc, hf⟩ := bcell hb
  have k1 : w.heap.size < ((w.alloc (.cells #[a, b, c] T)).alloc (.cells #[a', b', c'] T')).heap.size := by simp; omega
  have k2 : w.heap.size + 1 < ((w.alloc (.cells #[a, b, c] T)).alloc (.cells #[a', b', c'] T')).heap.size := by simp
  refine ⟨⟨?_, ?_, ?_⟩, ⟨?_, ?_, ?_⟩, ⟨?_, ?_, ?_⟩, ⟨?_, ?_, ?_⟩, Nat.lt_of_lt_of_le k2 hb.size⟩
  all_goals first
    | (rw [hc _ _ k1]; go_simp; done)
    | (rw [hf _ _ k1]; go_simp; done)
    | (rw [hc _ _ k2]; go_simp; done)
    | (rw [hf _ _ k2]; go_simp; done)

/-- A map in a block, behind a call that only makes memory. -/
theorem map_block {w w1 : World} {a b : Value} {T : TypeId} (hb : Below (w.alloc (.cells #[a, b] T)).heap.size (w.alloc (.cells #[a, b] T)) w1) :
    w1.cell? ⟨w.heap.size, 0, none⟩ = some a ∧ w1.cell? ⟨w.heap.size, 1, none⟩ = some b ∧ w.heap.size < w1.heap.size ∧ Below w.heap.size w w1 := by
  obtain ⟨hc, hf⟩ := bcell hb
  have k1 : w.heap.size < (w.alloc (.cells #[a, b] T)).heap.size := by simp
  refine ⟨?_, ?_, Nat.lt_of_lt_of_le k1 hb.size, ((Below.refl _ w).alloc (Nat.le_refl _) _).trans (hb.mono (by simp))⟩
  all_goals (rw [hc _ _ k1]; go_simp; done)

/-- Two maps in blocks, one behind the other. -/
theorem two_maps {w w1 : World} {a b a' b' : Value} {T T' : TypeId} (hb : Below ((w.alloc (.cells #[a, b] T)).alloc (.cells #[a', b'] T')).heap.size ((w.alloc (.cells #[a, b] T)).alloc (.cells #[a', b'] T')) w1) :
    (w1.cell? ⟨w.heap.size, 0, none⟩ = some a ∧ w1.cell? ⟨w.heap.size, 1, none⟩ = some b) ∧
    (w1.cell? ⟨w.heap.size + 1, 0, none⟩ = some a' ∧ w1.cell? ⟨w.heap.size + 1, 1, none⟩ = some b' ∧ w1.frozen? ⟨w.heap.size + 1, 0, none⟩ = false ∧ w1.frozen? ⟨w.heap.size + 1, 1, none⟩ = false) ∧
    w.heap.size + 1 < w1.heap.size ∧ Below w.heap.size w w1 := by
  obtain ⟨hc, hf⟩ := bcell hb
  have k1 : w.heap.size < ((w.alloc (.cells #[a, b] T)).alloc (.cells #[a', b'] T')).heap.size := by simp; omega
  have k2 : w.heap.size + 1 < ((w.alloc (.cells #[a, b] T)).alloc (.cells #[a', b'] T')).heap.size := by simp
  refine ⟨⟨?_, ?_⟩, ⟨?_, ?_, ?_, ?_⟩, Nat.lt_of_lt_of_le k2 hb.size, (((Below.refl _ w).alloc (Nat.le_refl _) _).alloc (by simp) _).trans (hb.mono (by simp; omega))⟩
  all_goals first
    | (rw [hc _ _ k1]; go_simp; done)
    | (rw [hc _ _ k2]; go_simp; done)
    | (rw [hf _ _ k2]; go_simp; done)

/-- The same of one block of three cells. -/
theorem one_block {w w1 : World} {a b c : Value} {T : TypeId} (hb : Below (w.alloc (.cells #[a, b, c] T)).heap.size (w.alloc (.cells #[a, b, c] T)) w1) :
    (w1.cell? ⟨w.heap.size, 0, none⟩ = some a ∧ w1.cell? ⟨w.heap.size, 1, none⟩ = some b ∧ w1.cell? ⟨w.heap.size, 2, none⟩ = some c) ∧
    (w1.frozen? ⟨w.heap.size, 0, none⟩ = false ∧ w1.frozen? ⟨w.heap.size, 1, none⟩ = false ∧ w1.frozen? ⟨w.heap.size, 2, none⟩ = false) ∧
    w.heap.size < w1.heap.size := by
  obtain ⟨hc, hf⟩ := bcell hb
  have k1 : w.heap.size < (w.alloc (.cells #[a, b, c] T)).heap.size := by simp
  refine ⟨⟨?_, ?_, ?_⟩, ⟨?_, ?_, ?_⟩, Nat.lt_of_lt_of_le k1 hb.size⟩
  all_goals first
    | (rw [hc _ _ k1]; go_simp; done)
    | (rw [hf _ _ k1]; go_simp; done)

end Go.Proofs.YtnhpoefhcngoaaaDoor
