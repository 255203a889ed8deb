/-
  THE WALKS OF THE LAWS 'IsMap', 'NegativeMap', 'OddPart'.
-/
import Derived.Test.YtmocbkpfoddffaaDoorOdd
namespace Go.Proofs.YtmocbkpfoddffaaDoor
open Go.RowKit
set_option linter.unusedVariables false

/-- The map with Plus of the other sign, if there is a map. -/
def neg (t p : Int) : Int × Int × Bool := if goodB t p = true then (t, -p, true) else (0, 0, false)
theorem sNegativeMap (t p : Int) (w : World) :
    Calls Tryd.prog 18 #[.agg #[.int .i64 t, .int .i64 p]] w fun e w' =>
      e = .returned (.tuple #[.agg #[.int .i64 (neg t p).1, .int .i64 (neg t p).2.1], .bool (neg t p).2.2]) ∧ Below w.heap.size w w' := by
  by_cases hg : goodB t p = true
  · have hp := goodB_iff.1 hg
    have hn : neg t p = (t, -p, true) := by rw [neg, if_pos hg]
    have p1 : -9 ≤ p := hp.2.2.2.1
    have p2 : p ≤ 9 := hp.2.2.2.2.1
    rw [hn]
    clear hp hn
    go_enter Tryd.func18, Tryd.ntmps18
    go_wp2_with fail
    refine (mpGood_any t p _).mono ?_
    rintro e w1 ⟨rfl, hb1⟩
    obtain ⟨⟨c0, c1⟩, ⟨d0, d1, f0, f1⟩, hz, hb⟩ := two_maps hb1
    clear hb1
    go_wp2_with fail
    exact bodyPost_ret (v := .tuple #[.agg #[.int .i64 t, .int .i64 (-p)], .bool true]) (by simp [results, Tryd.f18, go_sem, d0, d1]) rfl ⟨rfl, (hb.setCell (by simp) _).setCell (by simp) _⟩
  · have hg' : goodB t p = false := by simpa using hg
    have hn : neg t p = (0, 0, false) := by rw [neg, if_neg hg]
    rw [hn]
    clear hn
    go_enter Tryd.func18, Tryd.ntmps18
    go_wp2_with fail
    refine (mpGood_any t p _).mono ?_
    rintro e w1 ⟨rfl, hb1⟩
    obtain ⟨⟨c0, c1⟩, ⟨d0, d1, f0, f1⟩, hz, hb⟩ := two_maps hb1
    clear hb1
    go_wp2_with fail
    exact bodyPost_ret (v := .tuple #[.agg #[.int .i64 0, .int .i64 0], .bool false]) (by simp [results, Tryd.f18, go_sem, d0, d1]) rfl ⟨rfl, (hb.setCell (by simp) _).setCell (by simp) _⟩

theorem iNegativeMap (t p : Int) (w : World) :
    Calls Tryd.prog 17 #[.agg #[.int .i64 t, .int .i64 p]] w fun e w' =>
      e = .returned (.tuple #[.agg #[.int .i64 (neg t p).1, .int .i64 (neg t p).2.1], .bool (neg t p).2.2]) ∧ Below w.heap.size w w' := by
  by_cases hg : goodB t p = true
  · have hp := goodB_iff.1 hg
    have hn : neg t p = (t, -p, true) := by rw [neg, if_pos hg]
    have p1 : -9 ≤ p := hp.2.2.2.1
    have p2 : p ≤ 9 := hp.2.2.2.2.1
    rw [hn]
    clear hp hn
    go_enter Tryd.func17, Tryd.ntmps17
    go_wp2_with fail
    refine (isMap_any t p _).mono ?_
    rintro e w1 ⟨rfl, hb1⟩
    obtain ⟨⟨c0, c1⟩, ⟨d0, d1, f0, f1⟩, hz, hb⟩ := two_maps hb1
    clear hb1
    go_wp2_with fail
    exact bodyPost_ret (v := .tuple #[.agg #[.int .i64 t, .int .i64 (-p)], .bool true]) (by simp [results, Tryd.f17, go_sem, d0, d1]) rfl ⟨rfl, (hb.setCell (by simp) _).setCell (by simp) _⟩
  · have hg' : goodB t p = false := by simpa using hg
    have hn : neg t p = (0, 0, false) := by rw [neg, if_neg hg]
    rw [hn]
    clear hn
    go_enter Tryd.func17, Tryd.ntmps17
    go_wp2_with fail
    refine (isMap_any t p _).mono ?_
    rintro e w1 ⟨rfl, hb1⟩
    obtain ⟨⟨c0, c1⟩, ⟨d0, d1, f0, f1⟩, hz, hb⟩ := two_maps hb1
    clear hb1
    go_wp2_with fail
    exact bodyPost_ret (v := .tuple #[.agg #[.int .i64 0, .int .i64 0], .bool false]) (by simp [results, Tryd.f17, go_sem, d0, d1]) rfl ⟨rfl, (hb.setCell (by simp) _).setCell (by simp) _⟩

theorem sOddPart (n : Int) (w : World) :
    Calls Tryd.prog 7 #[.int .i64 n] w fun e w' => e = .returned (.tuple #[.int .i64 (odp n).1, .int .i64 (odp n).2.1, .bool (odp n).2.2]) ∧ w = w' := by
  by_cases hn : numB n = true
  · by_cases h0 : n = 0
    · subst h0
      have ho : odp 0 = (0, 0, false) := by rw [odp, if_neg (by simp)]
      rw [ho]
      go_enter Tryd.func7, Tryd.ntmps7
      go_wp2_with (go_at_call 32; refine (mpIs_any _ _).mono ?_; rintro e w' ⟨rfl, rfl⟩)
      go_ret3
      exact ⟨rfl, rfl⟩
    · have ho : odp n = ((hlv n).1, ((hlv n).2 : Int), true) := by rw [odp, if_pos ⟨h0, hn⟩]
      rw [ho]
      obtain ⟨n1, n2⟩ := numB_iff.1 hn
      have hz : (n == 0) = false := by simpa using h0
      have H0 := Lib.hid h0
      clear ho h0
      go_enter Tryd.func7, Tryd.ntmps7
      go_wp2_with (first | (go_at_call 32; refine (mpIs_any _ _).mono ?_; rintro e w' ⟨rfl, rfl⟩) | (go_at_call 33; refine (mpOdd_any _ _ H0.out n1 n2).mono ?_; rintro e w' ⟨rfl, rfl⟩))
      go_ret3
      exact ⟨rfl, rfl⟩
  · have hn' : numB n = false := by simpa using hn
    have ho : odp n = (0, 0, false) := by rw [odp, if_neg (by simp [hn])]
    rw [ho]
    clear ho hn
    go_enter Tryd.func7, Tryd.ntmps7
    go_wp2_with (go_at_call 32; refine (mpIs_any _ _).mono ?_; rintro e w' ⟨rfl, rfl⟩)
    go_ret3
    exact ⟨rfl, rfl⟩

end Go.Proofs.YtmocbkpfoddffaaDoor
