/-
  WHAT THE CURSOR DRAWS: maps, numbers, roots with levels; the functions that draw the arguments of chapter 4.
-/
import Derived.Test.YtjcpdlamgjpmmaaCur
import Derived.Deep.RegionHeld3
namespace Go.Proofs.Ytjcpdlamgjpmmaa
open Go.RowKit
set_option linter.unusedVariables false

theorem wf_small {x : Int} (h1 : -1000000000 ≤ x) (h2 : x ≤ 1000000000) : (Lit.int .i64 x).wf = true := by
  simp only [Lit.wf, IntKind.min, IntKind.max, IntKind.signed, IntKind.bits, Bool.and_eq_true, decide_eq_true_eq, if_true]
  omega
set_option maxRecDepth 100000 in
set_option maxHeartbeats 4000000 in
theorem mapped_any (w : World) (g A : Nat) (hA : A ≤ 700000) (h : Cur w g A) :
    Calls Try.prog 68 #[.pointer (some ⟨g, 0, none⟩)] w fun e w' => ∃ t p : Int, e = .returned (.agg #[.int .i64 t, .int .i64 p]) ∧ Cur w' g (A + 8) ∧ w.grownBy w' (some g) := by
  have hlt := h.lt
  have S0 := Lib.hid (St.alloc (St.refl h) (.cells #[.int .i64 0, .int .i64 0] 25))
  have B0 := Lib.hid (Box2.new w (.int .i64 0) (.int .i64 0) 25)
  clear h
  go_enter Try.func68, Try.ntmps68
  go_wp2_with fail
  refine (one_any _ g A 14 (by omega) (by omega) (by omega) S0.out.cur).mono ?_
  rintro e w1 ⟨b, rfl, hc, hg⟩
  have S1 := Lib.hid (S0.out.call hc hg)
  have B1 := Lib.hid (B0.out.grown hg hlt)
  clear hc hg S0 B0
  cases b
  · go_wp2_with fail
    refine (sureMap_any _ g _ (by omega) S1.out.cur).mono ?_
    rintro e w2 ⟨x, y, rfl, hc, hg⟩
    have S2 := Lib.hid (S1.out.call hc hg)
    have B2 := Lib.hid (B1.out.grown hg hlt)
    clear hc hg S1 B1
    obtain ⟨d0, d1, f0, f1, hz⟩ := B2.out
    go_wp2
    have S4 := (S2.out.set (r := w.heap.size) (k := 0) (Nat.le_refl _) hlt (.int .i64 x)).set (r := w.heap.size) (k := 1) (Nat.le_refl _) hlt (.int .i64 y)
    exact bodyPost_ret (v := .agg #[.int .i64 x, .int .i64 y]) (by simp [results, Try.results68, go_sem, d0, d1]) rfl ⟨x, y, rfl, S4.cur.more (by omega), S4.gr⟩
  · go_wp2_with fail
    refine (among_arr _ g _ _ _ 7 rfl (by decide) (by decide) (by kernel_rfl) (by omega) S1.out.cur).mono ?_
    rintro e w2 ⟨x, _, rfl, hc, hg⟩
    have S2 := Lib.hid (S1.out.call hc hg)
    have B2 := Lib.hid (B1.out.grown hg hlt)
    clear hc hg S1 B1
    go_wp2_with fail
    refine (among_arr _ g _ _ _ 6 rfl (by decide) (by decide) (by kernel_rfl) (by omega) S2.out.cur).mono ?_
    rintro e w3 ⟨y, _, rfl, hc, hg⟩
    have S3 := Lib.hid (S2.out.call hc hg)
    have B3 := Lib.hid (B2.out.grown hg hlt)
    clear hc hg S2 B2
    obtain ⟨d0, d1, f0, f1, hz⟩ := B3.out
    go_wp2
    have S4 := (S3.out.set (r := w.heap.size) (k := 0) (Nat.le_refl _) hlt (.int .i64 x)).set (r := w.heap.size) (k := 1) (Nat.le_refl _) hlt (.int .i64 y)
    exact bodyPost_ret (v := .agg #[.int .i64 x, .int .i64 y]) (by simp [results, Try.results68, go_sem, d0, d1]) rfl ⟨x, y, rfl, S4.cur.more (by omega), S4.gr⟩
set_option maxRecDepth 100000 in
set_option maxHeartbeats 4000000 in
theorem number_any (w : World) (g A : Nat) (hA : A ≤ 700000) (h : Cur w g A) :
    Calls Try.prog 50 #[.pointer (some ⟨g, 0, none⟩)] w fun e w' => ∃ x : Int, (Lit.int .i64 x).wf = true ∧ e = .returned (.int .i64 x) ∧ Cur w' g (A + 8) ∧ w.grownBy w' (some g) := by
  have S0 := Lib.hid (St.refl h)
  clear h
  go_enter Try.func50, Try.ntmps50
  go_wp2_with fail
  refine (one_any _ g A 12 (by omega) (by omega) (by omega) S0.out.cur).mono ?_
  rintro e w1 ⟨b, rfl, hc, hg⟩
  have S1 := Lib.hid (S0.out.call hc hg)
  clear hc hg S0
  cases b
  case true =>
    go_wp2_with fail
    refine (among_arr _ g _ _ _ 6 rfl (by decide) (by decide) (by kernel_rfl) (by omega) S1.out.cur).mono ?_
    rintro e w2 ⟨x, hx, rfl, hc, hg⟩
    have S2 := Lib.hid (S1.out.call hc hg)
    have HX := Lib.hid hx
    clear hc hg S1 hx
    go_wp2
    go_ret
    exact ⟨x, HX.out, rfl, S2.out.cur.more (by omega), S2.out.gr⟩
  case false =>
    go_wp2_with fail
    refine (one_any _ g _ 6 (by omega) (by omega) (by omega) S1.out.cur).mono ?_
    rintro e w2 ⟨b, rfl, hc, hg⟩
    have S2 := Lib.hid (S1.out.call hc hg)
    clear hc hg S1
    cases b
    case true =>
      go_wp2_with fail
      refine (pick_any _ g _ 40 (by omega) (by omega) (by omega) S2.out.cur).mono ?_
      rintro e w3 ⟨x, x0, x1, rfl, hc, hg⟩
      have S3 := Lib.hid (S2.out.call hc hg)
      have x2 : x ≤ 40 := by omega
      clear hc hg S2 x1
      go_wp2
      go_ret
      exact ⟨_, wf_small (by omega) (by omega), rfl, S3.out.cur.more (by omega), S3.out.gr⟩
    case false =>
      go_wp2_with fail
      refine (one_any _ g _ 5 (by omega) (by omega) (by omega) S2.out.cur).mono ?_
      rintro e w3 ⟨b, rfl, hc, hg⟩
      have S3 := Lib.hid (S2.out.call hc hg)
      clear hc hg S2
      cases b
      case true =>
        go_wp2_with fail
        refine (pick_any _ g _ 1000 (by omega) (by omega) (by omega) S3.out.cur).mono ?_
        rintro e w4 ⟨x, x0, x1, rfl, hc, hg⟩
        have S4 := Lib.hid (S3.out.call hc hg)
        have x2 : x ≤ 1000 := by omega
        clear hc hg S3 x1
        go_wp2
        go_ret
        exact ⟨_, wf_small (by omega) (by omega), rfl, S4.out.cur.more (by omega), S4.out.gr⟩
      case false =>
        go_wp2_with fail
        refine (pick_any _ g _ 120 (by omega) (by omega) (by omega) S3.out.cur).mono ?_
        rintro e w4 ⟨x, x0, x1, rfl, hc, hg⟩
        have S4 := Lib.hid (S3.out.call hc hg)
        have x2 : x ≤ 120 := by omega
        clear hc hg S3 x1
        go_wp2
        go_ret
        exact ⟨_, wf_small (by omega) (by omega), rfl, S4.out.cur.more (by omega), S4.out.gr⟩
theorem among_drew (w : World) (g A : Nat) (vs : Array Value) (T : TypeId) (L : Nat) (hL : vs.size = L) (h0 : 0 < L) (h1 : L ≤ 1000) (hv : vs.all isI = true) (hA : A ≤ 900000) (h : Cur w g A) :
    Calls Try.prog 57 #[.pointer (some ⟨g, 0, none⟩), .slice (some ⟨w.heap.size, 0, none⟩) L L] ((w.alloc (.cells vs T)).drew) fun e w' => ∃ x : Int, (Lit.int .i64 x).wf = true ∧ e = .returned (.int .i64 x) ∧ Cur w' g (A + 2) ∧ w.grownBy w' (some g) :=
  (among_arr w.drew g A vs T L hL h0 h1 hv hA (St.drew (St.refl h)).cur).mono fun e w' ⟨x, hx, he, hc, hg⟩ => ⟨x, hx, he, hc, hg.os, hg.tape, hg.output, hg.size, hg.block⟩
theorem St.draws {w W : World} {g A : Nat} (h : St w W g A) (n : Nat) : St w (W.drewN n) g A := ⟨h.cur.kept (below_drewN (Below.refl W.heap.size W) n) h.cur.lt, h.gr.os, h.gr.tape, h.gr.output, h.gr.size, h.gr.block⟩
theorem Box2.drew {W : World} {r : Nat} {a b : Value} (h : Box2 W r a b) : Box2 W.drew r a b := h.kept (Below.drew (Below.refl W.heap.size W)) h.lt
theorem Box2.alloc {W : World} {r : Nat} {a b : Value} (h : Box2 W r a b) (o : Obj) : Box2 (W.alloc o) r a b := h.kept ((Below.refl W.heap.size W).alloc (Nat.le_refl _) o) h.lt
set_option maxRecDepth 100000 in
set_option maxHeartbeats 4000000 in
theorem rooted_any (w : World) (g A : Nat) (hA : A ≤ 600000) (h : Cur w g A) :
    Calls Try.prog 47 #[.pointer (some ⟨g, 0, none⟩)] w fun e w' => ∃ t p r k : Int, (Lit.int .i64 r).wf = true ∧ (Lit.int .i64 k).wf = true ∧ e = .returned (.tuple #[.agg #[.int .i64 t, .int .i64 p], .int .i64 r, .int .i64 k]) ∧ Cur w' g (A + 30) ∧ w.grownBy w' (some g) := by
  have hlt := h.lt
  have S0 := Lib.hid (St.alloc (St.refl h) (.cells #[.int .i64 0, .int .i64 0] 25))
  have B0 := Lib.hid (Box2.new w (.int .i64 0) (.int .i64 0) 25)
  clear h
  go_enter Try.func47, Try.ntmps47
  go_wp2_with fail
  refine (mapped_any _ g A (by omega) S0.out.cur).mono ?_
  rintro e w1 ⟨t, p, rfl, hc, hg⟩
  have S1 := S0.out.call hc hg
  have B1 := B0.out.grown hg hlt
  have hz : w.heap.size < w1.heap.size := B1.lt
  have S2 := Lib.hid (S1.alloc (.cells #[.int .i64 t, .int .i64 p] 25))
  have B2 := Lib.hid (B1.alloc (.cells #[.int .i64 t, .int .i64 p] 25))
  have D2 := Lib.hid (Box2.new w1 (.int .i64 t) (.int .i64 p) 25)
  have hz2 : g < w1.heap.size := by omega
  clear hc hg S0 B0 S1 B1
  go_wp2_with fail
  refine (number_any _ g _ (by omega) S2.out.cur).mono ?_
  rintro e w2 ⟨x, hx, rfl, hc, hg⟩
  have HX := Lib.hid hx
  have S3 := Lib.hid (S2.out.call hc hg)
  have B3 := Lib.hid (B2.out.grown hg hlt)
  have D3 := Lib.hid (D2.out.grown hg hz2)
  clear hc hg S2 B2 D2 hx
  go_wp2_with fail
  refine (one_any _ g _ 2 (by omega) (by omega) (by omega) S3.out.cur).mono ?_
  rintro e w3 ⟨b, rfl, hc, hg⟩
  have S4 := Lib.hid (S3.out.call hc hg)
  have B4 := Lib.hid (B3.out.grown hg hlt)
  have D4 := Lib.hid (D3.out.grown hg hz2)
  clear hc hg S3 B3 D3
  cases b
  case false =>
    go_wp2_with fail
    obtain ⟨d0, d1, f0, f1, hz3⟩ := D4.out
    go_region_with (go_at_call 57; first | refine (among_arr _ g _ _ _ 12 rfl (by decide) (by decide) (by kernel_rfl) (by omega) S4.out.cur).mono ?_ | refine (among_drew _ g _ _ _ 12 rfl (by decide) (by decide) (by kernel_rfl) (by omega) S4.out.cur).mono ?_; rintro e w9 ⟨q, hq, rfl, hc, hg⟩; obtain ⟨d0, d1, f0, f1, hz3⟩ := Box2.grown D4.out hg hz2; obtain ⟨e0, e1, k0, k1, hz4⟩ := Box2.grown B4.out hg hlt)
    all_goals
      go_wp2_with fail
      have S9 := ((S4.out.call hc hg).set (r := w.heap.size) (k := 0) (Nat.le_refl _) hlt (.int .i64 t)).set (r := w.heap.size) (k := 1) (Nat.le_refl _) hlt (.int .i64 p)
      first
        | exact bodyPost_ret (v := .tuple #[.agg #[.int .i64 t, .int .i64 p], .int .i64 x, .int .i64 q]) (by simp [results, Try.results47, go_sem, e0, e1]) rfl ⟨t, p, x, q, HX.out, hq, rfl, S9.cur.more (by omega), S9.gr⟩
        | exact bodyPost_ret (v := .tuple #[.agg #[.int .i64 t, .int .i64 p], .int .i64 x, .int .i64 q]) (by simp [results, Try.results47, go_sem, e0, e1]) rfl ⟨t, p, x, q, HX.out, hq, rfl, S9.drew.cur.more (by omega), S9.drew.gr⟩
  case true =>
    go_wp2_with fail
    refine (among_arr _ g _ _ _ 9 rfl (by decide) (by decide) (by kernel_rfl) (by omega) S4.out.cur).mono ?_
    rintro e w4 ⟨y, hy, rfl, hc, hg⟩
    have HY := Lib.hid hy
    have S5 := Lib.hid (S4.out.call hc hg)
    have B5 := Lib.hid (B4.out.grown hg hlt)
    have D5 := Lib.hid (D4.out.grown hg hz2)
    clear hc hg S4 B4 D4 hy
    go_wp2_with fail
    obtain ⟨d0, d1, f0, f1, hz3⟩ := D5.out
    go_region_with (go_at_call 57; first | refine (among_arr _ g _ _ _ 12 rfl (by decide) (by decide) (by kernel_rfl) (by omega) S5.out.cur).mono ?_ | refine (among_drew _ g _ _ _ 12 rfl (by decide) (by decide) (by kernel_rfl) (by omega) S5.out.cur).mono ?_; rintro e w9 ⟨q, hq, rfl, hc, hg⟩; obtain ⟨d0, d1, f0, f1, hz3⟩ := Box2.grown D5.out hg hz2; obtain ⟨e0, e1, k0, k1, hz4⟩ := Box2.grown B5.out hg hlt)
    all_goals
      go_wp2_with fail
      have S9 := ((S5.out.call hc hg).set (r := w.heap.size) (k := 0) (Nat.le_refl _) hlt (.int .i64 t)).set (r := w.heap.size) (k := 1) (Nat.le_refl _) hlt (.int .i64 p)
      first
        | exact bodyPost_ret (v := .tuple #[.agg #[.int .i64 t, .int .i64 p], .int .i64 y, .int .i64 q]) (by simp [results, Try.results47, go_sem, e0, e1]) rfl ⟨t, p, y, q, HY.out, hq, rfl, S9.cur.more (by omega), S9.gr⟩
        | exact bodyPost_ret (v := .tuple #[.agg #[.int .i64 t, .int .i64 p], .int .i64 y, .int .i64 q]) (by simp [results, Try.results47, go_sem, e0, e1]) rfl ⟨t, p, y, q, HY.out, hq, rfl, S9.drew.cur.more (by omega), S9.drew.gr⟩
end Go.Proofs.Ytjcpdlamgjpmmaa
