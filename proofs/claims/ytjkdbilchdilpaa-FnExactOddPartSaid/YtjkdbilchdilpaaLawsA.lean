/-
  THE WALKS OF THE LAWS 'IsMap', 'NegativeMap', 'OddPart'.
-/
import Derived.Test.YtjkdbilchdilpaaOdd
namespace Go.Proofs.Ytjkdbilchdilpaa
open Go.RowKit
set_option linter.unusedVariables false

theorem sIsMap (t p : Int) (w : World) :
    Calls Try.prog 6 #[.agg #[.int .i64 t, .int .i64 p]] w fun e w' => e = .returned (.bool (goodB t p)) ∧ Below w.heap.size w w' := by
  go_enter Try.func6, Try.ntmps6
  go_wp2_with fail
  refine (mpGood_any t p _).mono ?_
  rintro e w1 ⟨rfl, hb1⟩
  obtain ⟨c0, c1, hz, hb⟩ := map_block hb1
  clear hb1
  go_wp2_with fail
  go_ret
  exact ⟨rfl, hb⟩

theorem fnExactIsMap_law (t p : Int) (w : World) :
    Calls Try.prog 3 #[.agg #[.int .i64 t, .int .i64 p]] w fun e w' => e = .returned (.bool true) ∧ Below w.heap.size w w' := by
  go_enter Try.func3, Try.ntmps3
  go_wp2_with fail
  refine (toMap_any t p _).mono ?_
  rintro e w1 ⟨rfl, hb1⟩
  obtain ⟨c0, c1, hz, hb⟩ := map_block hb1
  clear hb1
  go_wp2_with fail
  refine (sIsMap t p _).mono ?_
  rintro e w2 ⟨rfl, hb2⟩
  have d0 := kept_cell hb2 hz c0
  have d1 := kept_cell hb2 hz c1
  have hz2 := Nat.lt_of_lt_of_le hz hb2.size
  have hbb := hb.trans (hb2.mono (Nat.le_of_lt hz))
  clear c0 c1 hb2 hb hz
  go_wp2_with fail
  refine (toMap_any t p _).mono ?_
  rintro e w3 ⟨rfl, hb3⟩
  have hbc := hbb.trans (hb3.mono (Nat.le_of_lt hz2))
  have hz3 := Nat.lt_of_lt_of_le hz2 hb3.size
  clear d0 d1 hb3 hbb
  go_wp2_with fail
  refine (isMap_any t p _).mono ?_
  rintro e w4 ⟨rfl, hb4⟩
  have hbd := hbc.trans (hb4.mono (Nat.le_of_lt hz3))
  clear hb4 hbc
  go_wp2_with fail
  go_ret
  exact ⟨rfl, hbd⟩

/-- The map with Plus of the other sign, if there is a map. -/
def neg (t p : Int) : Int × Int × Bool := if goodB t p = true then (t, -p, true) else (0, 0, false)
theorem sNegativeMap (t p : Int) (w : World) :
    Calls Try.prog 11 #[.agg #[.int .i64 t, .int .i64 p]] w fun e w' =>
      e = .returned (.tuple #[.agg #[.int .i64 (neg t p).1, .int .i64 (neg t p).2.1], .bool (neg t p).2.2]) ∧ Below w.heap.size w w' := by
  by_cases hg : goodB t p = true
  · have hp := goodB_iff.1 hg
    have hn : neg t p = (t, -p, true) := by rw [neg, if_pos hg]
    have p1 : -9 ≤ p := hp.2.2.2.1
    have p2 : p ≤ 9 := hp.2.2.2.2.1
    rw [hn]
    clear hp hn
    go_enter Try.func11, Try.ntmps11
    go_wp2_with fail
    refine (mpGood_any t p _).mono ?_
    rintro e w1 ⟨rfl, hb1⟩
    obtain ⟨⟨c0, c1⟩, ⟨d0, d1, f0, f1⟩, hz, hb⟩ := two_maps hb1
    clear hb1
    go_wp2_with fail
    exact bodyPost_ret (v := .tuple #[.agg #[.int .i64 t, .int .i64 (-p)], .bool true]) (by simp [results, Try.f11, go_sem, d0, d1]) rfl ⟨rfl, (hb.setCell (by simp) _).setCell (by simp) _⟩
  · have hg' : goodB t p = false := by simpa using hg
    have hn : neg t p = (0, 0, false) := by rw [neg, if_neg hg]
    rw [hn]
    clear hn
    go_enter Try.func11, Try.ntmps11
    go_wp2_with fail
    refine (mpGood_any t p _).mono ?_
    rintro e w1 ⟨rfl, hb1⟩
    obtain ⟨⟨c0, c1⟩, ⟨d0, d1, f0, f1⟩, hz, hb⟩ := two_maps hb1
    clear hb1
    go_wp2_with fail
    exact bodyPost_ret (v := .tuple #[.agg #[.int .i64 0, .int .i64 0], .bool false]) (by simp [results, Try.f11, go_sem, d0, d1]) rfl ⟨rfl, (hb.setCell (by simp) _).setCell (by simp) _⟩

theorem iNegativeMap (t p : Int) (w : World) :
    Calls Try.prog 12 #[.agg #[.int .i64 t, .int .i64 p]] w fun e w' =>
      e = .returned (.tuple #[.agg #[.int .i64 (neg t p).1, .int .i64 (neg t p).2.1], .bool (neg t p).2.2]) ∧ Below w.heap.size w w' := by
  by_cases hg : goodB t p = true
  · have hp := goodB_iff.1 hg
    have hn : neg t p = (t, -p, true) := by rw [neg, if_pos hg]
    have p1 : -9 ≤ p := hp.2.2.2.1
    have p2 : p ≤ 9 := hp.2.2.2.2.1
    rw [hn]
    clear hp hn
    go_enter Try.func12, Try.ntmps12
    go_wp2_with fail
    refine (isMap_any t p _).mono ?_
    rintro e w1 ⟨rfl, hb1⟩
    obtain ⟨⟨c0, c1⟩, ⟨d0, d1, f0, f1⟩, hz, hb⟩ := two_maps hb1
    clear hb1
    go_wp2_with fail
    exact bodyPost_ret (v := .tuple #[.agg #[.int .i64 t, .int .i64 (-p)], .bool true]) (by simp [results, Try.f12, go_sem, d0, d1]) rfl ⟨rfl, (hb.setCell (by simp) _).setCell (by simp) _⟩
  · have hg' : goodB t p = false := by simpa using hg
    have hn : neg t p = (0, 0, false) := by rw [neg, if_neg hg]
    rw [hn]
    clear hn
    go_enter Try.func12, Try.ntmps12
    go_wp2_with fail
    refine (isMap_any t p _).mono ?_
    rintro e w1 ⟨rfl, hb1⟩
    obtain ⟨⟨c0, c1⟩, ⟨d0, d1, f0, f1⟩, hz, hb⟩ := two_maps hb1
    clear hb1
    go_wp2_with fail
    exact bodyPost_ret (v := .tuple #[.agg #[.int .i64 0, .int .i64 0], .bool false]) (by simp [results, Try.f12, go_sem, d0, d1]) rfl ⟨rfl, (hb.setCell (by simp) _).setCell (by simp) _⟩

theorem eqMap_any (t p : Int) (w : World) :
    Calls Try.prog 13 #[.agg #[.int .i64 t, .int .i64 p], .agg #[.int .i64 t, .int .i64 p]] w fun e w' => e = .returned (.bool true) ∧ Below w.heap.size w w' := by
  go_enter Try.func13, Try.ntmps13
  go_wp2
  go_ret
  exact ⟨rfl, ((Below.refl _ _).alloc (Nat.le_refl _) _).alloc (by simp) _⟩

theorem fnExactNegativeMap_law (t p : Int) (w : World) :
    Calls Try.prog 5 #[.agg #[.int .i64 t, .int .i64 p]] w fun e w' => e = .returned (.bool true) ∧ Below w.heap.size w w' := by
  go_enter Try.func5, Try.ntmps5
  go_wp2_with fail
  refine (toMap_any t p _).mono ?_
  rintro e w1 ⟨rfl, hb1⟩
  obtain ⟨c0, c1, hz, hb⟩ := map_block hb1
  clear hb1
  go_wp2_with fail
  refine (sNegativeMap t p _).mono ?_
  rintro e w2 ⟨rfl, hb2⟩
  have d0 := kept_cell hb2 hz c0
  have d1 := kept_cell hb2 hz c1
  have hz2 := Nat.lt_of_lt_of_le hz hb2.size
  have hbb := hb.trans (hb2.mono (Nat.le_of_lt hz))
  clear c0 c1 hb2 hb hz
  go_wp2_with fail
  refine (toMap_any t p _).mono ?_
  rintro e w3 ⟨rfl, hb3⟩
  obtain ⟨m0, m1, hm, hb3'⟩ := map_block hb3
  have hbc := hbb.trans (hb3'.mono (Nat.le_of_lt hz2))
  have hz3 := Nat.lt_of_lt_of_le hz2 hb3'.size
  clear d0 d1 hb3 hbb hb3'
  go_wp2_with fail
  refine (iNegativeMap t p _).mono ?_
  rintro e w4 ⟨rfl, hb4⟩
  have n0 := kept_cell hb4 hm m0
  have n1 := kept_cell hb4 hm m1
  have hbd := hbc.trans (hb4.mono (Nat.le_of_lt hz3))
  have hz4 := Nat.lt_of_lt_of_le hz3 hb4.size
  have hm4 := Nat.lt_of_lt_of_le hm hb4.size
  have hne : w2.heap.size ≠ w4.heap.size := by omega
  clear m0 m1 hb4 hbc
  go_wp2_with fail
  refine (eqMap_any (neg t p).1 (neg t p).2.1 _).mono ?_
  rintro e w5 ⟨rfl, hb5⟩
  have hbe := (hbd.alloc (Nat.le_of_lt hz4) _).trans (hb5.mono (by simp; omega))
  clear hb5 hbd
  go_wp2_with fail
  go_ret
  exact ⟨rfl, hbe⟩

theorem fnExactOddPart_law (n : Int) (hn : (Lit.int .i64 n).wf = true) (w : World) :
    Calls Try.prog 4 #[.int .i64 n] w fun e w' => e = .returned (.bool true) ∧ Below w.heap.size w w' := by
  go_enter Try.func4, Try.ntmps4
  go_wp2_with fail
  refine (sOddPart n _).mono ?_
  rintro e w1 ⟨rfl, rfl⟩
  go_wp2_with fail
  refine (iOddPart n _).mono ?_
  rintro e w1 ⟨rfl, rfl⟩
  go_wp2_with fail
  go_ret
  exact ⟨rfl, Below.refl _ _⟩
end Go.Proofs.Ytjkdbilchdilpaa
