/-
  THE LEAVES OF CHAPTER 1: the small functions of the model and of the program that only reckon with numbers.
-/
import Derived.Test.YtkogfjpcojelaaaRows
import Derived.Test.YtkogfjpcojelaaaMath
import Derived.WalkKit
import Derived.WalkSpells
import Derived.Lib.Hide
import Derived.BigQuiet
import Derived.Deep.QuietTactic
namespace Go.Proofs.Ytkogfjpcojelaaa
open Go.RowKit
set_option linter.unusedVariables false

theorem ret_bool {a b : Bool} (h : a = b) : Ending.returned (.bool a) = .returned (.bool b) := by rw [h]
theorem ret_int {a b : Int} (h : a = b) : Ending.returned (.int .i64 a) = .returned (.int .i64 b) := by rw [h]

theorem ret_pair {x : Int × Bool} {a : Int} {b : Bool} (h : x = (a, b)) : Ending.returned (.tuple #[.int .i64 a, .bool b]) = .returned (.tuple #[.int .i64 x.1, .bool x.2]) := by rw [h]

/-- Is n in lo..hi? -/
def inB (n lo hi : Int) : Bool := decide (lo ≤ n ∧ n ≤ hi)
theorem l1In_any (n lo hi : Int) (w : World) :
    Calls Try.prog 39 #[.int .i64 n, .int .i64 lo, .int .i64 hi] w fun e w' => e = .returned (.bool (inB n lo hi)) ∧ w = w' := by
  by_cases h1 : lo ≤ n <;> by_cases h2 : n ≤ hi
  all_goals
    go_enter Try.func39, Try.ntmps39
    go_wp2
    go_ret
    simp [inB, *]

theorem tmod2 (n : Int) : (0 ≤ n ∧ n.tmod 2 = n % 2) ∨ (n < 0 ∧ n.tmod 2 = -(n % 2)) := by
  rw [Int.tmod_eq_emod]
  split <;> omega

/-- Is n odd? -/
def oddB (n : Int) : Bool := decide (n % 2 ≠ 0)
theorem oddB_tmod (n : Int) : (n.tmod 2 != 0) = oddB n := by
  unfold oddB
  rw [Bool.eq_iff_iff]
  simp only [bne_iff_ne, ne_eq, decide_eq_true_eq]
  rw [Int.tmod_eq_emod]
  split <;> omega
theorem even_tmod (n : Int) : (n.tmod 2 == 0) = !oddB n := by
  rw [← oddB_tmod, bne, Bool.not_not]

theorem isOdd_any (n : Int) (w : World) :
    Calls Try.prog 37 #[.int .i64 n] w fun e w' => e = .returned (.bool (oddB n)) ∧ w = w' := by
  go_enter Try.func37, Try.ntmps37
  go_wp2
  go_ret
  exact ⟨by rw [← oddB_tmod]; rfl, rfl⟩

theorem isNumber_any (n : Int) (w : World) :
    Calls Try.prog 42 #[.int .i64 n] w fun e w' => e = .returned (.bool (numB n)) ∧ w = w' := by
  unfold numB
  by_cases h1 : -1000000000000 ≤ n <;> by_cases h2 : n ≤ 1000000000000
  all_goals
    go_enter Try.func42, Try.ntmps42
    go_wp2
    go_ret
    simp [*]

theorem mpIs_any (n : Int) (w : World) :
    Calls Try.prog 26 #[.int .i64 n] w fun e w' => e = .returned (.bool (numB n)) ∧ w = w' := by
  go_enter Try.func26, Try.ntmps26
  go_wp2_with (go_at_call 39; refine (l1In_any _ _ _ _).mono ?_; rintro e w' ⟨rfl, rfl⟩)
  go_ret
  exact ⟨rfl, rfl⟩

theorem isMap_any (t p : Int) (w : World) :
    Calls Try.prog 41 #[.agg #[.int .i64 t, .int .i64 p]] w fun e w' => e = .returned (.bool (goodB t p)) ∧ Below w.heap.size w w' := by
  go_enter Try.func41, Try.ntmps41
  go_wp2_with (go_at_call 37; refine (isOdd_any _ _).mono ?_; rintro e w' ⟨rfl, rfl⟩)
  all_goals
    go_ret
    refine ⟨ret_bool ?_, (Below.refl _ _).alloc (Nat.le_refl _) _⟩
    rw [Bool.eq_iff_iff, goodB_iff]
    simp only [oddB, decide_eq_true_eq, Bool.false_eq_true, false_iff] at *
    omega

theorem mpGood_any (t p : Int) (w : World) :
    Calls Try.prog 25 #[.agg #[.int .i64 t, .int .i64 p]] w fun e w' => e = .returned (.bool (goodB t p)) ∧ Below w.heap.size w w' := by
  go_enter Try.func25, Try.ntmps25
  go_wp2_with (go_at_call 39; refine (l1In_any _ _ _ _).mono ?_; rintro e w' ⟨rfl, rfl⟩)
  all_goals
    go_ret
    refine ⟨ret_bool ?_, (Below.refl _ _).alloc (Nat.le_refl _) _⟩
    rw [Bool.eq_iff_iff, goodB_iff]
    simp only [inB, decide_eq_true_eq, Bool.false_eq_true, false_iff, bne_iff_ne, ne_eq] at *
    have := tmod2 t
    have := tmod2 p
    omega

theorem mpOne_any (n : Int) (w : World) :
    Calls Try.prog 27 #[.int .i64 n] w fun e w' => e = .returned (.tuple #[.int .i64 (if numB n = true then n else 0), .bool (numB n)]) ∧ w = w' := by
  by_cases h : numB n = true
  · go_enter Try.func27, Try.ntmps27
    go_wp2_with (go_at_call 26; refine (mpIs_any _ _).mono ?_; rintro e w' ⟨rfl, rfl⟩)
    go_ret2
    exact ⟨by simp, rfl⟩
  · have h' : numB n = false := by simpa using h
    go_enter Try.func27, Try.ntmps27
    go_wp2_with (go_at_call 26; refine (mpIs_any _ _).mono ?_; rintro e w' ⟨rfl, rfl⟩)
    go_ret2
    exact ⟨by simp, rfl⟩

theorem nx_even {t p n : Int} (h : (n.tmod 2 == 0) = true) : n.tdiv 2 = nx t p n := by
  simp only [beq_iff_eq] at h
  have := tmod2 n
  unfold nx
  rw [if_pos (by omega), Int.tdiv_eq_ediv]
  split <;> omega
theorem nx_odd {t p n : Int} (h : (n.tmod 2 == 0) = false) : t * n + p = nx t p n := by
  simp only [beq_eq_false_iff_ne, ne_eq] at h
  have := tmod2 n
  unfold nx
  rw [if_neg (by omega)]
theorem sx_even {t p n : Int} (h : (n.tmod 2 == 0) = true) : n.tdiv 2 = sx t p n := by
  rw [nx_even (t := t) (p := p) h]
  simp only [beq_iff_eq] at h
  have := tmod2 n
  unfold nx sx
  rw [if_pos (by omega), if_pos (by omega)]
theorem sx_odd {t p n : Int} (ht : t % 2 = 1) (hp : p % 2 = 1) (h : (n.tmod 2 == 0) = false) : (t * n + p).tdiv 2 = sx t p n := by
  simp only [beq_eq_false_iff_ne, ne_eq] at h
  have := tmod2 n
  have := odd_even ht hp (n := n) (by omega)
  unfold sx
  rw [if_neg (by omega), Int.tdiv_eq_ediv]
  split <;> omega

theorem mpNext_any (t p n : Int) (w : World) (hg : goodB t p = true) (hn : numB n = true) :
    Calls Try.prog 28 #[.agg #[.int .i64 t, .int .i64 p], .int .i64 n] w fun e w' => e = .returned (.int .i64 (nx t p n)) ∧ Below w.heap.size w w' := by
  have hm := mul_big ⟨(goodB_iff.1 hg).1, (goodB_iff.1 hg).2.1⟩ hn
  obtain ⟨n1, n2⟩ := numB_iff.1 hn
  obtain ⟨g1, g2, g3, g4, g5, g6⟩ := goodB_iff.1 hg
  clear g3 g6 hg hn
  go_enter Try.func28, Try.ntmps28
  go_wp2
  all_goals
    go_ret
  · exact ⟨ret_int (nx_even (by assumption)), (Below.refl _ _).alloc (Nat.le_refl _) _⟩
  · exact ⟨ret_int (nx_odd (by assumption)), (Below.refl _ _).alloc (Nat.le_refl _) _⟩

theorem mpShort_any (t p n : Int) (w : World) (hg : goodB t p = true) (hn : numB n = true) :
    Calls Try.prog 29 #[.agg #[.int .i64 t, .int .i64 p], .int .i64 n] w fun e w' => e = .returned (.int .i64 (sx t p n)) ∧ Below w.heap.size w w' := by
  have hm := mul_big ⟨(goodB_iff.1 hg).1, (goodB_iff.1 hg).2.1⟩ hn
  obtain ⟨n1, n2⟩ := numB_iff.1 hn
  obtain ⟨g1, g2, g3, g4, g5, g6⟩ := goodB_iff.1 hg
  have H3 := Lib.hid g3
  have H6 := Lib.hid g6
  clear g3 g6 hg hn
  go_enter Try.func29, Try.ntmps29
  go_wp2
  all_goals
    go_ret
  · exact ⟨ret_int (sx_even (by assumption)), (Below.refl _ _).alloc (Nat.le_refl _) _⟩
  · exact ⟨ret_int (sx_odd H3.out H6.out (by assumption)), (Below.refl _ _).alloc (Nat.le_refl _) _⟩

/-- Are there a map, a number, and steps? -/
def askB (t p n k : Int) : Bool := goodB t p && numB n && inB k 0 1000
theorem mpAsked_any (t p n k : Int) (w : World) :
    Calls Try.prog 30 #[.agg #[.int .i64 t, .int .i64 p], .int .i64 n, .int .i64 k] w fun e w' => e = .returned (.bool (askB t p n k)) ∧ Below w.heap.size w w' := by
  go_enter Try.func30, Try.ntmps30
  go_wp2_with (first | (go_at_call 39; refine (l1In_any _ _ _ _).mono ?_; rintro e w' ⟨rfl, rfl⟩) | (go_at_call 26; refine (mpIs_any _ _).mono ?_; rintro e w' ⟨rfl, rfl⟩) | (go_at_call 25; refine (mpGood_any _ _ _).mono ?_; rintro e w1 ⟨rfl, hb⟩))
  all_goals
    go_ret
    refine ⟨ret_bool ?_, by first | exact ((Below.refl _ _).alloc (Nat.le_refl _) _).trans (hb.mono (by simp))⟩
    simp [askB, *]

theorem step_any (t p n : Int) (w : World) (hg : goodB t p = true) (hn : numB n = true) :
    Calls Try.prog 33 #[.agg #[.int .i64 t, .int .i64 p, .int .i64 n]] w fun e w' => e = .returned (.agg #[.int .i64 t, .int .i64 p, .int .i64 (nx t p n)]) ∧ Below w.heap.size w w' := by
  have hm := mul_big ⟨(goodB_iff.1 hg).1, (goodB_iff.1 hg).2.1⟩ hn
  obtain ⟨n1, n2⟩ := numB_iff.1 hn
  obtain ⟨g1, g2, g3, g4, g5, g6⟩ := goodB_iff.1 hg
  clear g3 g6 hg hn
  go_enter Try.func33, Try.ntmps33
  go_wp2_with (go_at_call 37; refine (isOdd_any _ _).mono ?_; rintro e w' ⟨rfl, rfl⟩)
  · rename_i ho
    rw [nx_odd (by rw [even_tmod, ho]; rfl)]
    exact bodyPost_ret (v := .agg #[.int .i64 t, .int .i64 p, .int .i64 (nx t p n)]) (by simp [results, Try.results33, go_sem]) rfl ⟨rfl, ((Below.refl _ _).alloc (Nat.le_refl _) _).alloc (by simp) _⟩
  · rename_i ho
    rw [nx_even (t := t) (p := p) (by rw [even_tmod, ho]; rfl)]
    exact bodyPost_ret (v := .agg #[.int .i64 t, .int .i64 p, .int .i64 (nx t p n)]) (by simp [results, Try.results33, go_sem]) rfl ⟨rfl, ((Below.refl _ _).alloc (Nat.le_refl _) _).alloc (by simp) _⟩
end Go.Proofs.Ytkogfjpcojelaaa
