/-
  WHAT IS DRAWN: 'numbered', 'limited', 'DrawPathsMerge', 'DrawPeakRecords'.
-/
import Derived.Test.YtebbafapcknllaaDraw
import Derived.Test.YtebbafapcknllaaArgB
namespace Go.Proofs.Ytebbafapcknllaa
open Go.RowKit
set_option linter.unusedVariables false

theorem Box2.put {W : World} {r : Nat} {a b : Value} (h : Box2 W r a b) (x y : Value) : Box2 ((W.setCell ⟨r, 0, none⟩ x).setCell ⟨r, 1, none⟩ y) r x y := by
  obtain ⟨c0, c1, f0, f1, lt⟩ := h
  refine ⟨?_, ?_, ?_, ?_, by simpa using lt⟩
  all_goals simp [go_sem, c0, c1, f0, f1]
theorem Box2.set_off {W : World} {r r' : Nat} {a b : Value} (h : Box2 W r a b) (hne : r ≠ r') (x y : Value) : Box2 ((W.setCell ⟨r', 0, none⟩ x).setCell ⟨r', 1, none⟩ y) r a b := by
  obtain ⟨c0, c1, f0, f1, lt⟩ := h
  have hn : ¬ (r' = r) := fun e => hne e.symm
  refine ⟨?_, ?_, ?_, ?_, by simpa using lt⟩
  · exact (World.cell?_setCell_other _ _ _ _ (by simp)).trans ((World.cell?_setCell_other _ _ _ _ (by simp)).trans c0)
  · exact (World.cell?_setCell_other _ _ _ _ (by simp)).trans ((World.cell?_setCell_other _ _ _ _ (by simp)).trans c1)
  · rw [World.frozen?_setCell, World.frozen?_setCell]; exact f0
  · rw [World.frozen?_setCell, World.frozen?_setCell]; exact f1

set_option maxRecDepth 100000 in
set_option maxHeartbeats 8000000 in
theorem numbered_any (w : World) (g A : Nat) (hA : A ≤ 600000) (h : Cur w g A) :
    Calls Try.prog 34 #[.pointer (some ⟨g, 0, none⟩)] w fun e w' => ∃ t p x k : Int, (Lit.int .i64 x).wf = true ∧ e = .returned (.tuple #[.agg #[.int .i64 t, .int .i64 p], .int .i64 x, .int .i64 k]) ∧ Cur w' g (A + 40) ∧ w.grownBy w' (some g) := by
  have hlt := h.lt
  have S0 := Lib.hid (St.alloc (St.refl h) (.cells #[.int .i64 0, .int .i64 0] 25))
  have B0 := Lib.hid (Box2.new w (.int .i64 0) (.int .i64 0) 25)
  clear h
  go_enter Try.func34, Try.ntmps34
  go_wp2_with fail
  refine (sureMap_any _ g A (by omega) S0.out.cur).mono ?_
  rintro e w1 ⟨t, p, rfl, hc, hg⟩
  have S1 := S0.out.call hc hg
  have B1 := B0.out.grown hg hlt
  have hz : w.heap.size < w1.heap.size := B1.lt
  have S2 := Lib.hid (S1.alloc (.cells #[.int .i64 t, .int .i64 p] 25))
  have B2 := Lib.hid (B1.alloc (.cells #[.int .i64 t, .int .i64 p] 25))
  have D2 := Lib.hid (Box2.new w1 (.int .i64 t) (.int .i64 p) 25)
  have hz2 : g < w1.heap.size := by omega
  have hwr : w.heap.size ≤ w1.heap.size := by omega
  have hne : w.heap.size ≠ w1.heap.size := by omega
  clear hc hg S0 B0 S1 B1
  go_wp2_with fail
  refine (one_any _ g _ 12 (by omega) (by omega) (by omega) S2.out.cur).mono ?_
  rintro e w2 ⟨b, rfl, hc, hg⟩
  have S3 := Lib.hid (S2.out.call hc hg)
  have B3 := Lib.hid (B2.out.grown hg hlt)
  have D3 := Lib.hid (D2.out.grown hg hz2)
  clear hc hg S2 B2 D2
  cases b
  case true =>
    go_wp2_with fail
    refine (among_arr _ g _ _ _ 6 rfl (by decide) (by decide) (by kernel_rfl) (by omega) S3.out.cur).mono ?_
    rintro e w3 ⟨t2, _, rfl, hc, hg⟩
    have S4 := Lib.hid (S3.out.call hc hg)
    have B4 := Lib.hid (B3.out.grown hg hlt)
    have D4 := Lib.hid (D3.out.grown hg hz2)
    clear hc hg S3 B3 D3
    go_wp2_with fail
    refine (among_arr _ g _ _ _ 5 rfl (by decide) (by decide) (by kernel_rfl) (by omega) S4.out.cur).mono ?_
    rintro e w4 ⟨p2, _, rfl, hc, hg⟩
    have S4b := S4.out.call hc hg
    have B4b := B4.out.grown hg hlt
    have D4b := D4.out.grown hg hz2
    have SX := Lib.hid ((S4b.set (r := w1.heap.size) (k := 0) hwr hlt (.int .i64 t2)).set (r := w1.heap.size) (k := 1) hwr hlt (.int .i64 p2))
    have BX := Lib.hid (B4b.set_off hne (.int .i64 t2) (.int .i64 p2))
    have DX := Lib.hid (D4b.put (.int .i64 t2) (.int .i64 p2))
    obtain ⟨d0, d1, f0, f1, hz3⟩ := D4b
    clear hc hg S4 B4 D4 S4b B4b
    go_wp2_with fail
    refine (number_any _ g _ (by omega) SX.out.cur).mono ?_
    rintro e w5 ⟨x, hx, rfl, hc, hg⟩
    have HX := Lib.hid hx
    have S5 := Lib.hid (SX.out.call hc hg)
    have B5 := Lib.hid (BX.out.grown hg hlt)
    have D5 := Lib.hid (DX.out.grown hg hz2)
    clear hc hg SX BX DX hx
    go_wp2_with fail
    refine (one_any _ g _ 8 (by omega) (by omega) (by omega) S5.out.cur).mono ?_
    rintro e w6 ⟨b2, rfl, hc, hg⟩
    have S6 := Lib.hid (S5.out.call hc hg)
    have B6 := Lib.hid (B5.out.grown hg hlt)
    have D6 := Lib.hid (D5.out.grown hg hz2)
    clear hc hg S5 B5 D5
    cases b2
    case true =>
      go_wp2_with fail
      obtain ⟨d0, d1, f0, f1, hz3⟩ := D6.out
      go_region_with (go_at_call 58; (first | refine (among_arr _ g _ _ _ 7 rfl (by decide) (by decide) (by kernel_rfl) (by omega) S6.out.cur).mono ?_ | refine (among_drew _ g _ _ _ 7 rfl (by decide) (by decide) (by kernel_rfl) (by omega) S6.out.cur).mono ?_); rintro e w9 ⟨q, hq, rfl, hc, hg⟩; obtain ⟨d0, d1, f0, f1, hz3⟩ := Box2.grown D6.out hg hz2; obtain ⟨e0, e1, k0, k1, hz4⟩ := Box2.grown B6.out hg hlt)
      all_goals
        go_wp2_with fail
        have S9 := ((S6.out.call hc hg).set (r := w.heap.size) (k := 0) (Nat.le_refl _) hlt (.int .i64 t2)).set (r := w.heap.size) (k := 1) (Nat.le_refl _) hlt (.int .i64 p2)
        first
          | exact bodyPost_ret (v := .tuple #[.agg #[.int .i64 t2, .int .i64 p2], .int .i64 x, .int .i64 q]) (by simp [results, Try.results34, go_sem, e0, e1]) rfl ⟨t2, p2, x, q, HX.out, rfl, S9.cur.more (by omega), S9.gr⟩
          | exact bodyPost_ret (v := .tuple #[.agg #[.int .i64 t2, .int .i64 p2], .int .i64 x, .int .i64 q]) (by simp [results, Try.results34, go_sem, e0, e1]) rfl ⟨t2, p2, x, q, HX.out, rfl, S9.drew.cur.more (by omega), S9.drew.gr⟩
    case false =>
      go_wp2_with fail
      obtain ⟨d0, d1, f0, f1, hz3⟩ := D6.out
      go_region_with (go_at_call 60; (first | refine (pick_any _ g _ 40 (by omega) (by omega) (by omega) S6.out.cur).mono ?_ | refine (pick_any _ g _ 40 (by omega) (by omega) (by omega) S6.out.drew.cur).mono ?_); rintro e w9 ⟨q, q0, q1, rfl, hc, hg⟩; have S7 : Hid (St w w9 g _) := (by first | exact Lib.hid (S6.out.call hc hg) | exact Lib.hid (S6.out.drew.call hc hg)); obtain ⟨d0, d1, f0, f1, hz3⟩ := (by first | exact Box2.grown D6.out hg hz2 | exact Box2.grown D6.out.drew hg hz2 : Box2 w9 _ (.int .i64 t2) (.int .i64 p2)); obtain ⟨e0, e1, k0, k1, hz4⟩ := (by first | exact Box2.grown B6.out hg hlt | exact Box2.grown B6.out.drew hg hlt : Box2 w9 w.heap.size (.int .i64 0) (.int .i64 0)))
      all_goals
        go_wp2_with fail
        have S9 := (S7.out.set (r := w.heap.size) (k := 0) (Nat.le_refl _) hlt (.int .i64 t2)).set (r := w.heap.size) (k := 1) (Nat.le_refl _) hlt (.int .i64 p2)
        first
          | exact bodyPost_ret (v := .tuple #[.agg #[.int .i64 t2, .int .i64 p2], .int .i64 x, .int .i64 q]) (by simp [results, Try.results34, go_sem, e0, e1]) rfl ⟨t2, p2, x, q, HX.out, rfl, S9.cur.more (by omega), S9.gr⟩
          | exact bodyPost_ret (v := .tuple #[.agg #[.int .i64 t2, .int .i64 p2], .int .i64 x, .int .i64 q]) (by simp [results, Try.results34, go_sem, e0, e1]) rfl ⟨t2, p2, x, q, HX.out, rfl, S9.drew.cur.more (by omega), S9.drew.gr⟩
  case false =>
    obtain ⟨d0, d1, f0, f1, hz3⟩ := D3.out
    go_wp2_with fail
    refine (number_any _ g _ (by omega) S3.out.cur).mono ?_
    rintro e w5 ⟨x, hx, rfl, hc, hg⟩
    have HX := Lib.hid hx
    have S5 := Lib.hid (S3.out.call hc hg)
    have B5 := Lib.hid (B3.out.grown hg hlt)
    have D5 := Lib.hid (D3.out.grown hg hz2)
    clear hc hg S3 B3 D3 hx
    go_wp2_with fail
    refine (one_any _ g _ 8 (by omega) (by omega) (by omega) S5.out.cur).mono ?_
    rintro e w6 ⟨b2, rfl, hc, hg⟩
    have S6 := Lib.hid (S5.out.call hc hg)
    have B6 := Lib.hid (B5.out.grown hg hlt)
    have D6 := Lib.hid (D5.out.grown hg hz2)
    clear hc hg S5 B5 D5
    cases b2
    case true =>
      go_wp2_with fail
      obtain ⟨d0, d1, f0, f1, hz3⟩ := D6.out
      go_region_with (go_at_call 58; (first | refine (among_arr _ g _ _ _ 7 rfl (by decide) (by decide) (by kernel_rfl) (by omega) S6.out.cur).mono ?_ | refine (among_drew _ g _ _ _ 7 rfl (by decide) (by decide) (by kernel_rfl) (by omega) S6.out.cur).mono ?_); rintro e w9 ⟨q, hq, rfl, hc, hg⟩; obtain ⟨d0, d1, f0, f1, hz3⟩ := Box2.grown D6.out hg hz2; obtain ⟨e0, e1, k0, k1, hz4⟩ := Box2.grown B6.out hg hlt)
      all_goals
        go_wp2_with fail
        have S9 := ((S6.out.call hc hg).set (r := w.heap.size) (k := 0) (Nat.le_refl _) hlt (.int .i64 t)).set (r := w.heap.size) (k := 1) (Nat.le_refl _) hlt (.int .i64 p)
        first
          | exact bodyPost_ret (v := .tuple #[.agg #[.int .i64 t, .int .i64 p], .int .i64 x, .int .i64 q]) (by simp [results, Try.results34, go_sem, e0, e1]) rfl ⟨t, p, x, q, HX.out, rfl, S9.cur.more (by omega), S9.gr⟩
          | exact bodyPost_ret (v := .tuple #[.agg #[.int .i64 t, .int .i64 p], .int .i64 x, .int .i64 q]) (by simp [results, Try.results34, go_sem, e0, e1]) rfl ⟨t, p, x, q, HX.out, rfl, S9.drew.cur.more (by omega), S9.drew.gr⟩
    case false =>
      go_wp2_with fail
      obtain ⟨d0, d1, f0, f1, hz3⟩ := D6.out
      go_region_with (go_at_call 60; (first | refine (pick_any _ g _ 40 (by omega) (by omega) (by omega) S6.out.cur).mono ?_ | refine (pick_any _ g _ 40 (by omega) (by omega) (by omega) S6.out.drew.cur).mono ?_); rintro e w9 ⟨q, q0, q1, rfl, hc, hg⟩; have S7 : Hid (St w w9 g _) := (by first | exact Lib.hid (S6.out.call hc hg) | exact Lib.hid (S6.out.drew.call hc hg)); obtain ⟨d0, d1, f0, f1, hz3⟩ := (by first | exact Box2.grown D6.out hg hz2 | exact Box2.grown D6.out.drew hg hz2 : Box2 w9 _ (.int .i64 t) (.int .i64 p)); obtain ⟨e0, e1, k0, k1, hz4⟩ := (by first | exact Box2.grown B6.out hg hlt | exact Box2.grown B6.out.drew hg hlt : Box2 w9 w.heap.size (.int .i64 0) (.int .i64 0)))
      all_goals
        go_wp2_with fail
        have S9 := (S7.out.set (r := w.heap.size) (k := 0) (Nat.le_refl _) hlt (.int .i64 t)).set (r := w.heap.size) (k := 1) (Nat.le_refl _) hlt (.int .i64 p)
        first
          | exact bodyPost_ret (v := .tuple #[.agg #[.int .i64 t, .int .i64 p], .int .i64 x, .int .i64 q]) (by simp [results, Try.results34, go_sem, e0, e1]) rfl ⟨t, p, x, q, HX.out, rfl, S9.cur.more (by omega), S9.gr⟩
          | exact bodyPost_ret (v := .tuple #[.agg #[.int .i64 t, .int .i64 p], .int .i64 x, .int .i64 q]) (by simp [results, Try.results34, go_sem, e0, e1]) rfl ⟨t, p, x, q, HX.out, rfl, S9.drew.cur.more (by omega), S9.drew.gr⟩

end Go.Proofs.Ytebbafapcknllaa
