/-
  WHAT THE CURSOR DRAWS: maps, numbers, roots with levels; the functions that draw the arguments of chapter 4.
  WHAT IS DRAWN: 'numbered', 'limited', 'DrawPathsMerge', 'DrawPeakRecords'.
-/
import Derived.Test.YtjcpdlamgjpmmaeCur
import Derived.Deep.RegionHeld3
import Derived.Test.YtjcpdlamgjpmmaeArgB
namespace Go.Proofs.Ytjcpdlamgjpmmae
open Go.RowKit
set_option linter.unusedVariables false

theorem wf_small {x : Int} (h1 : -1000000000 ≤ x) (h2 : x ≤ 1000000000) : (Lit.int .i64 x).wf = true := by
  simp only [Lit.wf, IntKind.min, IntKind.max, IntKind.signed, IntKind.bits, Bool.and_eq_true, decide_eq_true_eq, if_true]
  omega
set_option maxRecDepth 100000 in
set_option maxHeartbeats 4000000 in
theorem number_any (w : World) (g A : Nat) (hA : A ≤ 700000) (h : Cur w g A) :
    Calls Try.prog 19 #[.pointer (some ⟨g, 0, none⟩)] w fun e w' => ∃ x : Int, (Lit.int .i64 x).wf = true ∧ e = .returned (.int .i64 x) ∧ Cur w' g (A + 8) ∧ w.grownBy w' (some g) := by
  have S0 := Lib.hid (St.refl h)
  clear h
  go_enter Try.func19, Try.ntmps19
  go_wp2_with fail
  refine (one_any _ g A 12 (by omega) (by omega) (by omega) S0.out.cur).mono ?_
  rintro e w1 ⟨b, rfl, hc, hg⟩
  have S1 := Lib.hid (S0.out.call hc hg)
  clear hc hg S0
  cases b
  case true =>
    go_wp2_with fail
    refine (among_arr _ g _ _ _ 6 rfl (by decide) (by decide) (by kernel_rfl) (by omega) S1.out.cur).mono ?_
    rintro e w2 ⟨x, hx, rfl, hc, hg⟩
    have S2 := Lib.hid (S1.out.call hc hg)
    have HX := Lib.hid hx
    clear hc hg S1 hx
    go_wp2
    go_ret
    exact ⟨x, HX.out, rfl, S2.out.cur.more (by omega), S2.out.gr⟩
  case false =>
    go_wp2_with fail
    refine (one_any _ g _ 6 (by omega) (by omega) (by omega) S1.out.cur).mono ?_
    rintro e w2 ⟨b, rfl, hc, hg⟩
    have S2 := Lib.hid (S1.out.call hc hg)
    clear hc hg S1
    cases b
    case true =>
      go_wp2_with fail
      refine (pick_any _ g _ 40 (by omega) (by omega) (by omega) S2.out.cur).mono ?_
      rintro e w3 ⟨x, x0, x1, rfl, hc, hg⟩
      have S3 := Lib.hid (S2.out.call hc hg)
      have x2 : x ≤ 40 := by omega
      clear hc hg S2 x1
      go_wp2
      go_ret
      exact ⟨_, wf_small (by omega) (by omega), rfl, S3.out.cur.more (by omega), S3.out.gr⟩
    case false =>
      go_wp2_with fail
      refine (one_any _ g _ 5 (by omega) (by omega) (by omega) S2.out.cur).mono ?_
      rintro e w3 ⟨b, rfl, hc, hg⟩
      have S3 := Lib.hid (S2.out.call hc hg)
      clear hc hg S2
      cases b
      case true =>
        go_wp2_with fail
        refine (pick_any _ g _ 1000 (by omega) (by omega) (by omega) S3.out.cur).mono ?_
        rintro e w4 ⟨x, x0, x1, rfl, hc, hg⟩
        have S4 := Lib.hid (S3.out.call hc hg)
        have x2 : x ≤ 1000 := by omega
        clear hc hg S3 x1
        go_wp2
        go_ret
        exact ⟨_, wf_small (by omega) (by omega), rfl, S4.out.cur.more (by omega), S4.out.gr⟩
      case false =>
        go_wp2_with fail
        refine (pick_any _ g _ 120 (by omega) (by omega) (by omega) S3.out.cur).mono ?_
        rintro e w4 ⟨x, x0, x1, rfl, hc, hg⟩
        have S4 := Lib.hid (S3.out.call hc hg)
        have x2 : x ≤ 120 := by omega
        clear hc hg S3 x1
        go_wp2
        go_ret
        exact ⟨_, wf_small (by omega) (by omega), rfl, S4.out.cur.more (by omega), S4.out.gr⟩
theorem among_drew (w : World) (g A : Nat) (vs : Array Value) (T : TypeId) (L : Nat) (hL : vs.size = L) (h0 : 0 < L) (h1 : L ≤ 1000) (hv : vs.all isI = true) (hA : A ≤ 900000) (h : Cur w g A) :
    Calls Try.prog 38 #[.pointer (some ⟨g, 0, none⟩), .slice (some ⟨w.heap.size, 0, none⟩) L L] ((w.alloc (.cells vs T)).drew) fun e w' => ∃ x : Int, (Lit.int .i64 x).wf = true ∧ e = .returned (.int .i64 x) ∧ Cur w' g (A + 2) ∧ w.grownBy w' (some g) :=
  (among_arr w.drew g A vs T L hL h0 h1 hv hA (St.drew (St.refl h)).cur).mono fun e w' ⟨x, hx, he, hc, hg⟩ => ⟨x, hx, he, hc, hg.os, hg.tape, hg.output, hg.size, hg.block⟩
theorem St.draws {w W : World} {g A : Nat} (h : St w W g A) (n : Nat) : St w (W.drewN n) g A := ⟨h.cur.kept (below_drewN (Below.refl W.heap.size W) n) h.cur.lt, h.gr.os, h.gr.tape, h.gr.output, h.gr.size, h.gr.block⟩
theorem Box2.drew {W : World} {r : Nat} {a b : Value} (h : Box2 W r a b) : Box2 W.drew r a b := h.kept (Below.drew (Below.refl W.heap.size W)) h.lt
theorem Box2.alloc {W : World} {r : Nat} {a b : Value} (h : Box2 W r a b) (o : Obj) : Box2 (W.alloc o) r a b := h.kept ((Below.refl W.heap.size W).alloc (Nat.le_refl _) o) h.lt
end Go.Proofs.Ytjcpdlamgjpmmae

namespace Go.Proofs.Ytjcpdlamgjpmmae
open Go.RowKit
set_option linter.unusedVariables false

theorem Box2.put {W : World} {r : Nat} {a b : Value} (h : Box2 W r a b) (x y : Value) : Box2 ((W.setCell ⟨r, 0, none⟩ x).setCell ⟨r, 1, none⟩ y) r x y := by
  obtain ⟨c0, c1, f0, f1, lt⟩ := h
  refine ⟨?_, ?_, ?_, ?_, by simpa using lt⟩
  all_goals simp [go_sem, c0, c1, f0, f1]
theorem Box2.set_off {W : World} {r r' : Nat} {a b : Value} (h : Box2 W r a b) (hne : r ≠ r') (x y : Value) : Box2 ((W.setCell ⟨r', 0, none⟩ x).setCell ⟨r', 1, none⟩ y) r a b := by
  obtain ⟨c0, c1, f0, f1, lt⟩ := h
  have hn : ¬ (r' = r) := fun e => hne e.symm
  refine ⟨?_, ?_, ?_, ?_, by simpa using lt⟩
  · exact (World.cell?_setCell_other _ _ _ _ (by simp)).trans ((World.cell?_setCell_other _ _ _ _ (by simp)).trans c0)
  · exact (World.cell?_setCell_other _ _ _ _ (by simp)).trans ((World.cell?_setCell_other _ _ _ _ (by simp)).trans c1)
  · rw [World.frozen?_setCell, World.frozen?_setCell]; exact f0
  · rw [World.frozen?_setCell, World.frozen?_setCell]; exact f1

set_option maxRecDepth 100000 in
set_option maxHeartbeats 8000000 in
theorem numbered_any (w : World) (g A : Nat) (hA : A ≤ 600000) (h : Cur w g A) :
    Calls Try.prog 18 #[.pointer (some ⟨g, 0, none⟩)] w fun e w' => ∃ t p x k : Int, (Lit.int .i64 x).wf = true ∧ e = .returned (.tuple #[.agg #[.int .i64 t, .int .i64 p], .int .i64 x, .int .i64 k]) ∧ Cur w' g (A + 40) ∧ w.grownBy w' (some g) := by
  have hlt := h.lt
  have S0 := Lib.hid (St.alloc (St.refl h) (.cells #[.int .i64 0, .int .i64 0] 25))
  have B0 := Lib.hid (Box2.new w (.int .i64 0) (.int .i64 0) 25)
  clear h
  go_enter Try.func18, Try.ntmps18
  go_wp2_with fail
  refine (sureMap_any _ g A (by omega) S0.out.cur).mono ?_
  rintro e w1 ⟨t, p, rfl, hc, hg⟩
  have S1 := S0.out.call hc hg
  have B1 := B0.out.grown hg hlt
  have hz : w.heap.size < w1.heap.size := B1.lt
  have S2 := Lib.hid (S1.alloc (.cells #[.int .i64 t, .int .i64 p] 25))
  have B2 := Lib.hid (B1.alloc (.cells #[.int .i64 t, .int .i64 p] 25))
  have D2 := Lib.hid (Box2.new w1 (.int .i64 t) (.int .i64 p) 25)
  have hz2 : g < w1.heap.size := by omega
  have hwr : w.heap.size ≤ w1.heap.size := by omega
  have hne : w.heap.size ≠ w1.heap.size := by omega
  clear hc hg S0 B0 S1 B1
  go_wp2_with fail
  refine (one_any _ g _ 12 (by omega) (by omega) (by omega) S2.out.cur).mono ?_
  rintro e w2 ⟨b, rfl, hc, hg⟩
  have S3 := Lib.hid (S2.out.call hc hg)
  have B3 := Lib.hid (B2.out.grown hg hlt)
  have D3 := Lib.hid (D2.out.grown hg hz2)
  clear hc hg S2 B2 D2
  cases b
  case true =>
    go_wp2_with fail
    refine (among_arr _ g _ _ _ 6 rfl (by decide) (by decide) (by kernel_rfl) (by omega) S3.out.cur).mono ?_
    rintro e w3 ⟨t2, _, rfl, hc, hg⟩
    have S4 := Lib.hid (S3.out.call hc hg)
    have B4 := Lib.hid (B3.out.grown hg hlt)
    have D4 := Lib.hid (D3.out.grown hg hz2)
    clear hc hg S3 B3 D3
    go_wp2_with fail
    refine (among_arr _ g _ _ _ 5 rfl (by decide) (by decide) (by kernel_rfl) (by omega) S4.out.cur).mono ?_
    rintro e w4 ⟨p2, _, rfl, hc, hg⟩
    have S4b := S4.out.call hc hg
    have B4b := B4.out.grown hg hlt
    have D4b := D4.out.grown hg hz2
    have SX := Lib.hid ((S4b.set (r := w1.heap.size) (k := 0) hwr hlt (.int .i64 t2)).set (r := w1.heap.size) (k := 1) hwr hlt (.int .i64 p2))
    have BX := Lib.hid (B4b.set_off hne (.int .i64 t2) (.int .i64 p2))
    have DX := Lib.hid (D4b.put (.int .i64 t2) (.int .i64 p2))
    obtain ⟨d0, d1, f0, f1, hz3⟩ := D4b
    clear hc hg S4 B4 D4 S4b B4b
    go_wp2_with fail
    refine (number_any _ g _ (by omega) SX.out.cur).mono ?_
    rintro e w5 ⟨x, hx, rfl, hc, hg⟩
    have HX := Lib.hid hx
    have S5 := Lib.hid (SX.out.call hc hg)
    have B5 := Lib.hid (BX.out.grown hg hlt)
    have D5 := Lib.hid (DX.out.grown hg hz2)
    clear hc hg SX BX DX hx
    go_wp2_with fail
    refine (one_any _ g _ 8 (by omega) (by omega) (by omega) S5.out.cur).mono ?_
    rintro e w6 ⟨b2, rfl, hc, hg⟩
    have S6 := Lib.hid (S5.out.call hc hg)
    have B6 := Lib.hid (B5.out.grown hg hlt)
    have D6 := Lib.hid (D5.out.grown hg hz2)
    clear hc hg S5 B5 D5
    cases b2
    case true =>
      go_wp2_with fail
      obtain ⟨d0, d1, f0, f1, hz3⟩ := D6.out
      go_region_with (go_at_call 38; (first | refine (among_arr _ g _ _ _ 7 rfl (by decide) (by decide) (by kernel_rfl) (by omega) S6.out.cur).mono ?_ | refine (among_drew _ g _ _ _ 7 rfl (by decide) (by decide) (by kernel_rfl) (by omega) S6.out.cur).mono ?_); rintro e w9 ⟨q, hq, rfl, hc, hg⟩; obtain ⟨d0, d1, f0, f1, hz3⟩ := Box2.grown D6.out hg hz2; obtain ⟨e0, e1, k0, k1, hz4⟩ := Box2.grown B6.out hg hlt)
      all_goals
        go_wp2_with fail
        have S9 := ((S6.out.call hc hg).set (r := w.heap.size) (k := 0) (Nat.le_refl _) hlt (.int .i64 t2)).set (r := w.heap.size) (k := 1) (Nat.le_refl _) hlt (.int .i64 p2)
        first
          | exact bodyPost_ret (v := .tuple #[.agg #[.int .i64 t2, .int .i64 p2], .int .i64 x, .int .i64 q]) (by simp [results, Try.results18, go_sem, e0, e1]) rfl ⟨t2, p2, x, q, HX.out, rfl, S9.cur.more (by omega), S9.gr⟩
          | exact bodyPost_ret (v := .tuple #[.agg #[.int .i64 t2, .int .i64 p2], .int .i64 x, .int .i64 q]) (by simp [results, Try.results18, go_sem, e0, e1]) rfl ⟨t2, p2, x, q, HX.out, rfl, S9.drew.cur.more (by omega), S9.drew.gr⟩
    case false =>
      go_wp2_with fail
      obtain ⟨d0, d1, f0, f1, hz3⟩ := D6.out
      go_region_with (go_at_call 39; (first | refine (pick_any _ g _ 40 (by omega) (by omega) (by omega) S6.out.cur).mono ?_ | refine (pick_any _ g _ 40 (by omega) (by omega) (by omega) S6.out.drew.cur).mono ?_); rintro e w9 ⟨q, q0, q1, rfl, hc, hg⟩; have S7 : Hid (St w w9 g _) := (by first | exact Lib.hid (S6.out.call hc hg) | exact Lib.hid (S6.out.drew.call hc hg)); obtain ⟨d0, d1, f0, f1, hz3⟩ := (by first | exact Box2.grown D6.out hg hz2 | exact Box2.grown D6.out.drew hg hz2 : Box2 w9 _ (.int .i64 t2) (.int .i64 p2)); obtain ⟨e0, e1, k0, k1, hz4⟩ := (by first | exact Box2.grown B6.out hg hlt | exact Box2.grown B6.out.drew hg hlt : Box2 w9 w.heap.size (.int .i64 0) (.int .i64 0)))
      all_goals
        go_wp2_with fail
        have S9 := (S7.out.set (r := w.heap.size) (k := 0) (Nat.le_refl _) hlt (.int .i64 t2)).set (r := w.heap.size) (k := 1) (Nat.le_refl _) hlt (.int .i64 p2)
        first
          | exact bodyPost_ret (v := .tuple #[.agg #[.int .i64 t2, .int .i64 p2], .int .i64 x, .int .i64 q]) (by simp [results, Try.results18, go_sem, e0, e1]) rfl ⟨t2, p2, x, q, HX.out, rfl, S9.cur.more (by omega), S9.gr⟩
          | exact bodyPost_ret (v := .tuple #[.agg #[.int .i64 t2, .int .i64 p2], .int .i64 x, .int .i64 q]) (by simp [results, Try.results18, go_sem, e0, e1]) rfl ⟨t2, p2, x, q, HX.out, rfl, S9.drew.cur.more (by omega), S9.drew.gr⟩
  case false =>
    obtain ⟨d0, d1, f0, f1, hz3⟩ := D3.out
    go_wp2_with fail
    refine (number_any _ g _ (by omega) S3.out.cur).mono ?_
    rintro e w5 ⟨x, hx, rfl, hc, hg⟩
    have HX := Lib.hid hx
    have S5 := Lib.hid (S3.out.call hc hg)
    have B5 := Lib.hid (B3.out.grown hg hlt)
    have D5 := Lib.hid (D3.out.grown hg hz2)
    clear hc hg S3 B3 D3 hx
    go_wp2_with fail
    refine (one_any _ g _ 8 (by omega) (by omega) (by omega) S5.out.cur).mono ?_
    rintro e w6 ⟨b2, rfl, hc, hg⟩
    have S6 := Lib.hid (S5.out.call hc hg)
    have B6 := Lib.hid (B5.out.grown hg hlt)
    have D6 := Lib.hid (D5.out.grown hg hz2)
    clear hc hg S5 B5 D5
    cases b2
    case true =>
      go_wp2_with fail
      obtain ⟨d0, d1, f0, f1, hz3⟩ := D6.out
      go_region_with (go_at_call 38; (first | refine (among_arr _ g _ _ _ 7 rfl (by decide) (by decide) (by kernel_rfl) (by omega) S6.out.cur).mono ?_ | refine (among_drew _ g _ _ _ 7 rfl (by decide) (by decide) (by kernel_rfl) (by omega) S6.out.cur).mono ?_); rintro e w9 ⟨q, hq, rfl, hc, hg⟩; obtain ⟨d0, d1, f0, f1, hz3⟩ := Box2.grown D6.out hg hz2; obtain ⟨e0, e1, k0, k1, hz4⟩ := Box2.grown B6.out hg hlt)
      all_goals
        go_wp2_with fail
        have S9 := ((S6.out.call hc hg).set (r := w.heap.size) (k := 0) (Nat.le_refl _) hlt (.int .i64 t)).set (r := w.heap.size) (k := 1) (Nat.le_refl _) hlt (.int .i64 p)
        first
          | exact bodyPost_ret (v := .tuple #[.agg #[.int .i64 t, .int .i64 p], .int .i64 x, .int .i64 q]) (by simp [results, Try.results18, go_sem, e0, e1]) rfl ⟨t, p, x, q, HX.out, rfl, S9.cur.more (by omega), S9.gr⟩
          | exact bodyPost_ret (v := .tuple #[.agg #[.int .i64 t, .int .i64 p], .int .i64 x, .int .i64 q]) (by simp [results, Try.results18, go_sem, e0, e1]) rfl ⟨t, p, x, q, HX.out, rfl, S9.drew.cur.more (by omega), S9.drew.gr⟩
    case false =>
      go_wp2_with fail
      obtain ⟨d0, d1, f0, f1, hz3⟩ := D6.out
      go_region_with (go_at_call 39; (first | refine (pick_any _ g _ 40 (by omega) (by omega) (by omega) S6.out.cur).mono ?_ | refine (pick_any _ g _ 40 (by omega) (by omega) (by omega) S6.out.drew.cur).mono ?_); rintro e w9 ⟨q, q0, q1, rfl, hc, hg⟩; have S7 : Hid (St w w9 g _) := (by first | exact Lib.hid (S6.out.call hc hg) | exact Lib.hid (S6.out.drew.call hc hg)); obtain ⟨d0, d1, f0, f1, hz3⟩ := (by first | exact Box2.grown D6.out hg hz2 | exact Box2.grown D6.out.drew hg hz2 : Box2 w9 _ (.int .i64 t) (.int .i64 p)); obtain ⟨e0, e1, k0, k1, hz4⟩ := (by first | exact Box2.grown B6.out hg hlt | exact Box2.grown B6.out.drew hg hlt : Box2 w9 w.heap.size (.int .i64 0) (.int .i64 0)))
      all_goals
        go_wp2_with fail
        have S9 := (S7.out.set (r := w.heap.size) (k := 0) (Nat.le_refl _) hlt (.int .i64 t)).set (r := w.heap.size) (k := 1) (Nat.le_refl _) hlt (.int .i64 p)
        first
          | exact bodyPost_ret (v := .tuple #[.agg #[.int .i64 t, .int .i64 p], .int .i64 x, .int .i64 q]) (by simp [results, Try.results18, go_sem, e0, e1]) rfl ⟨t, p, x, q, HX.out, rfl, S9.cur.more (by omega), S9.gr⟩
          | exact bodyPost_ret (v := .tuple #[.agg #[.int .i64 t, .int .i64 p], .int .i64 x, .int .i64 q]) (by simp [results, Try.results18, go_sem, e0, e1]) rfl ⟨t, p, x, q, HX.out, rfl, S9.drew.cur.more (by omega), S9.drew.gr⟩

set_option maxRecDepth 100000 in
set_option maxHeartbeats 8000000 in
theorem limited_any (w : World) (g A : Nat) (hA : A ≤ 500000) (h : Cur w g A) :
    Calls Try.prog 45 #[.pointer (some ⟨g, 0, none⟩)] w fun e w' => ∃ t p k : Int, e = .returned (.tuple #[.agg #[.int .i64 t, .int .i64 p], .int .i64 k]) ∧ Cur w' g (A + 50) ∧ w.grownBy w' (some g) := by
  have hlt := h.lt
  have S0 := Lib.hid (St.alloc (St.refl h) (.cells #[.int .i64 0, .int .i64 0] 25))
  have B0 := Lib.hid (Box2.new w (.int .i64 0) (.int .i64 0) 25)
  clear h
  go_enter Try.func45, Try.ntmps45
  go_wp2_with fail
  refine (numbered_any _ g A (by omega) S0.out.cur).mono ?_
  rintro e w1 ⟨t, p, x, k, _, rfl, hc, hg⟩
  have S1 := S0.out.call hc hg
  have B1 := B0.out.grown hg hlt
  have hz : w.heap.size < w1.heap.size := B1.lt
  have S2 := Lib.hid (S1.alloc (.cells #[.int .i64 t, .int .i64 p] 25))
  have B2 := Lib.hid (B1.alloc (.cells #[.int .i64 t, .int .i64 p] 25))
  have D2 := Lib.hid (Box2.new w1 (.int .i64 t) (.int .i64 p) 25)
  have hz2 : g < w1.heap.size := by omega
  clear hc hg S0 B0 S1 B1
  go_wp2_with fail
  generalize hW : w1.alloc (.cells #[.int .i64 t, .int .i64 p] 25) = W2 at S2 B2 D2 ⊢
  clear hW
  obtain ⟨d0, d1, f0, f1, hz3⟩ := D2.out
  go_region_with (go_at_call 38; (first | refine (among_arr _ g _ _ _ 8 rfl (by decide) (by decide) (by kernel_rfl) (by omega) S2.out.cur).mono ?_ | refine (among_drew _ g _ _ _ 8 rfl (by decide) (by decide) (by kernel_rfl) (by omega) S2.out.cur).mono ?_); rintro e w9 ⟨q, hq, rfl, hc, hg⟩; obtain ⟨d0, d1, f0, f1, hz3⟩ := Box2.grown D2.out hg hz2; obtain ⟨e0, e1, k0, k1, hz4⟩ := Box2.grown B2.out hg hlt)
  all_goals
    go_wp2_with fail
    have S9 := ((S2.out.call hc hg).set (r := w.heap.size) (k := 0) (Nat.le_refl _) hlt (.int .i64 t)).set (r := w.heap.size) (k := 1) (Nat.le_refl _) hlt (.int .i64 p)
    first
      | exact bodyPost_ret (v := .tuple #[.agg #[.int .i64 t, .int .i64 p], .int .i64 q]) (by simp [results, Try.results45, go_sem, e0, e1]) rfl ⟨t, p, q, rfl, S9.cur.more (by omega), S9.gr⟩
      | exact bodyPost_ret (v := .tuple #[.agg #[.int .i64 t, .int .i64 p], .int .i64 q]) (by simp [results, Try.results45, go_sem, e0, e1]) rfl ⟨t, p, q, rfl, S9.drew.cur.more (by omega), S9.drew.gr⟩

set_option maxRecDepth 100000 in
set_option maxHeartbeats 8000000 in
theorem DrawPathsMerge_any (w : World) (v : Value) (hb : BytesArg w v) :
    Calls Try.prog 5 #[v] w fun e w' => ∃ t p a b : Int, e = .returned (.tuple #[.agg #[.int .i64 t, .int .i64 p], .int .i64 a, .int .i64 b]) ∧ Below w.heap.size w w' := by
  obtain ⟨g, hge⟩ : ∃ g, g = w.heap.size + 1 := ⟨_, rfl⟩
  have hlt : w.heap.size ≠ g := by omega
  have C0 : Hid (Cur ((w.alloc (.cells #[.int .i64 0, .int .i64 0] 25)).alloc (.cells #[v, .int .i64 0, .int .u64 0] 45)) g 0) := Lib.hid (by rw [hge]; exact Cur.new hb _ _ _ _)
  have B0 := Lib.hid ((Box2.new w (.int .i64 0) (.int .i64 0) 25).alloc (.cells #[v, .int .i64 0, .int .u64 0] 45))
  have L0 := Lib.hid (((Below.refl w.heap.size w).alloc (Nat.le_refl _) (.cells #[.int .i64 0, .int .i64 0] 25)).alloc (by simp) (.cells #[v, .int .i64 0, .int .u64 0] 45))
  obtain ⟨av, nv, cv, hv, -, -⟩ := hb
  subst hv
  go_enter Try.func5, Try.ntmps5
  go_wp2_with fail
  rw [← hge]
  refine (numbered_any _ g 0 (by omega) C0.out).mono ?_
  rintro e w1 ⟨t, p, x, k, -, rfl, hc, hg⟩
  have hgl := hc.lt
  have L2 := Lib.hid ((L0.out.grown hg (by simp; omega) (fun j hj => by injection hj; omega)).alloc (by have := (B0.out.grown' hg hlt).lt; omega) (.cells #[.int .i64 t, .int .i64 p] 25))
  have B2 := Lib.hid ((B0.out.grown' hg hlt).alloc (.cells #[.int .i64 t, .int .i64 p] 25))
  have D2 := Lib.hid (Box2.new w1 (.int .i64 t) (.int .i64 p) 25)
  have C2 := Lib.hid (hc.kept ((Below.refl w1.heap.size w1).alloc (Nat.le_refl _) (.cells #[.int .i64 t, .int .i64 p] 25)) hgl)
  have hne2 : w1.heap.size ≠ g := by omega
  have hz : w.heap.size < w1.heap.size := (B0.out.grown' hg hlt).lt
  have hz1 : ¬ (w.heap.size = w1.heap.size) := by omega
  have hz2 : ¬ (w1.heap.size = w.heap.size) := by omega
  clear hc hg C0 B0 L0
  go_wp2_with fail
  rw [← hge]
  generalize hW : w1.alloc (.cells #[.int .i64 t, .int .i64 p] 25) = W2 at L2 B2 C2 D2 ⊢
  clear hW
  obtain ⟨d0, d1, f0, f1, hz3⟩ := D2.out
  go_region_with (go_at_call 19; rw [← hge]; (first | refine (number_any _ g _ (by omega) C2.out).mono ?_ | refine (number_any _ g _ (by omega) (C2.out.kept (Below.drew (Below.refl W2.heap.size W2)) C2.out.lt)).mono ?_); rintro e w3 ⟨y, -, rfl, hc, hg⟩; have L3 : Hid (Below w.heap.size w w3) := (by first | exact Lib.hid (L2.out.grown hg (by have := B2.out.lt; omega) (fun j hj => by injection hj; omega)) | exact Lib.hid (L2.out.drew.grown hg (by have := B2.out.lt; exact Nat.le_of_lt this) (fun j hj => by injection hj; omega))); obtain ⟨d0, d1, f0, f1, hz3⟩ := (by first | exact Box2.grown' D2.out hg hne2 | exact Box2.grown' D2.out.drew hg hne2 : Box2 w3 w1.heap.size (.int .i64 t) (.int .i64 p)); obtain ⟨e0, e1, k0, k1, hz4⟩ := (by first | exact Box2.grown' B2.out hg hlt | exact Box2.grown' B2.out.drew hg hlt : Box2 w3 w.heap.size (.int .i64 0) (.int .i64 0)))
  all_goals
    go_wp2_with fail
    have L9 := (L3.out.setCell (p := ⟨w.heap.size, 0, none⟩) (Nat.le_refl _) (.int .i64 t)).setCell (p := ⟨w.heap.size, 1, none⟩) (Nat.le_refl _) (.int .i64 p)
    first
      | exact bodyPost_ret (v := .tuple #[.agg #[.int .i64 t, .int .i64 p], .int .i64 x, .int .i64 y]) (by simp [results, Try.results5, go_sem, e0, e1]) rfl ⟨t, p, x, y, rfl, L9⟩
      | exact bodyPost_ret (v := .tuple #[.agg #[.int .i64 t, .int .i64 p], .int .i64 x, .int .i64 y]) (by simp [results, Try.results5, go_sem, e0, e1]) rfl ⟨t, p, x, y, rfl, L9.drew⟩
set_option maxRecDepth 100000 in
set_option maxHeartbeats 8000000 in
theorem DrawSlowestUpTo_any (w : World) (v : Value) (hb : BytesArg w v) :
    Calls Try.prog 24 #[v] w fun e w' => ∃ t p k : Int, e = .returned (.tuple #[.agg #[.int .i64 t, .int .i64 p], .int .i64 k]) ∧ Below w.heap.size w w' := by
  obtain ⟨g, hge⟩ : ∃ g, g = w.heap.size + 1 := ⟨_, rfl⟩
  have hlt : w.heap.size ≠ g := by omega
  have C0 : Hid (Cur ((w.alloc (.cells #[.int .i64 0, .int .i64 0] 25)).alloc (.cells #[v, .int .i64 0, .int .u64 0] 45)) g 0) := Lib.hid (by rw [hge]; exact Cur.new hb _ _ _ _)
  have B0 := Lib.hid ((Box2.new w (.int .i64 0) (.int .i64 0) 25).alloc (.cells #[v, .int .i64 0, .int .u64 0] 45))
  have L0 := Lib.hid (((Below.refl w.heap.size w).alloc (Nat.le_refl _) (.cells #[.int .i64 0, .int .i64 0] 25)).alloc (by simp) (.cells #[v, .int .i64 0, .int .u64 0] 45))
  obtain ⟨av, nv, cv, hv, -, -⟩ := hb
  subst hv
  go_enter Try.func24, Try.ntmps24
  go_wp2_with fail
  rw [← hge]
  refine (limited_any _ g 0 (by omega) C0.out).mono ?_
  rintro e w1 ⟨t, p, k, rfl, hc, hg⟩
  have L1 := Lib.hid (L0.out.grown hg (by simp; omega) (fun j hj => by injection hj; omega))
  obtain ⟨d0, d1, f0, f1, hz⟩ := B0.out.grown' hg hlt
  clear hc hg C0 B0 L0
  go_wp2
  exact bodyPost_ret (v := .tuple #[.agg #[.int .i64 t, .int .i64 p], .int .i64 k]) (by simp [results, Try.results24, go_sem, d0, d1]) rfl ⟨t, p, k, rfl, (L1.out.setCell (Nat.le_refl _) _).setCell (Nat.le_refl _) _⟩
set_option maxRecDepth 100000 in
set_option maxHeartbeats 8000000 in
theorem DrawPeakRecords_any (w : World) (v : Value) (hb : BytesArg w v) :
    Calls Try.prog 10 #[v] w fun e w' => ∃ t p k : Int, e = .returned (.tuple #[.agg #[.int .i64 t, .int .i64 p], .int .i64 k]) ∧ Below w.heap.size w w' := by
  have HD := Lib.hid (DrawSlowestUpTo_any (w.alloc (.cells #[.int .i64 0, .int .i64 0] 25)) v (hb.kept ((Below.refl w.heap.size w).alloc (Nat.le_refl _) _) (Nat.le_refl _)))
  have L0 := Lib.hid ((Below.refl w.heap.size w).alloc (Nat.le_refl _) (.cells #[.int .i64 0, .int .i64 0] 25))
  have B0 := Lib.hid (Box2.new w (.int .i64 0) (.int .i64 0) 25)
  obtain ⟨av, nv, cv, hv, -, -⟩ := hb
  subst hv
  go_enter Try.func10, Try.ntmps10
  go_wp2_with fail
  refine HD.out.mono ?_
  rintro e w1 ⟨t, p, k, rfl, hb1⟩
  have L1 := Lib.hid (L0.out.trans (hb1.mono (by simp)))
  obtain ⟨d0, d1, f0, f1, hz⟩ := B0.out.kept hb1 (by simp)
  clear hb1 B0 L0
  go_wp2
  exact bodyPost_ret (v := .tuple #[.agg #[.int .i64 t, .int .i64 p], .int .i64 k]) (by simp [results, Try.results10, go_sem, d0, d1]) rfl ⟨t, p, k, rfl, (L1.out.setCell (Nat.le_refl _) _).setCell (Nat.le_refl _) _⟩
end Go.Proofs.Ytjcpdlamgjpmmae
