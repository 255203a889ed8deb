/-
  WHAT THE CURSOR DRAWS: maps, numbers, roots with levels; the functions that draw the arguments of chapter 4.
-/
import Derived.Test.YtebbafapcknllaaCur
import Derived.Deep.RegionHeld3
namespace Go.Proofs.Ytebbafapcknllaa
open Go.RowKit
set_option linter.unusedVariables false

theorem wf_small {x : Int} (h1 : -1000000000 ≤ x) (h2 : x ≤ 1000000000) : (Lit.int .i64 x).wf = true := by
  simp only [Lit.wf, IntKind.min, IntKind.max, IntKind.signed, IntKind.bits, Bool.and_eq_true, decide_eq_true_eq, if_true]
  omega
set_option maxRecDepth 100000 in
set_option maxHeartbeats 4000000 in
theorem number_any (w : World) (g A : Nat) (hA : A ≤ 700000) (h : Cur w g A) :
    Calls Try.prog 59 #[.pointer (some ⟨g, 0, none⟩)] w fun e w' => ∃ x : Int, (Lit.int .i64 x).wf = true ∧ e = .returned (.int .i64 x) ∧ Cur w' g (A + 8) ∧ w.grownBy w' (some g) := by
  have S0 := Lib.hid (St.refl h)
  clear h
  go_enter Try.func59, Try.ntmps59
  go_wp2_with fail
  refine (one_any _ g A 12 (by omega) (by omega) (by omega) S0.out.cur).mono ?_
  rintro e w1 ⟨b, rfl, hc, hg⟩
  have S1 := Lib.hid (S0.out.call hc hg)
  clear hc hg S0
  cases b
  case true =>
    go_wp2_with fail
    refine (among_arr _ g _ _ _ 6 rfl (by decide) (by decide) (by kernel_rfl) (by omega) S1.out.cur).mono ?_
    rintro e w2 ⟨x, hx, rfl, hc, hg⟩
    have S2 := Lib.hid (S1.out.call hc hg)
    have HX := Lib.hid hx
    clear hc hg S1 hx
    go_wp2
    go_ret
    exact ⟨x, HX.out, rfl, S2.out.cur.more (by omega), S2.out.gr⟩
  case false =>
    go_wp2_with fail
    refine (one_any _ g _ 6 (by omega) (by omega) (by omega) S1.out.cur).mono ?_
    rintro e w2 ⟨b, rfl, hc, hg⟩
    have S2 := Lib.hid (S1.out.call hc hg)
    clear hc hg S1
    cases b
    case true =>
      go_wp2_with fail
      refine (pick_any _ g _ 40 (by omega) (by omega) (by omega) S2.out.cur).mono ?_
      rintro e w3 ⟨x, x0, x1, rfl, hc, hg⟩
      have S3 := Lib.hid (S2.out.call hc hg)
      have x2 : x ≤ 40 := by omega
      clear hc hg S2 x1
      go_wp2
      go_ret
      exact ⟨_, wf_small (by omega) (by omega), rfl, S3.out.cur.more (by omega), S3.out.gr⟩
    case false =>
      go_wp2_with fail
      refine (one_any _ g _ 5 (by omega) (by omega) (by omega) S2.out.cur).mono ?_
      rintro e w3 ⟨b, rfl, hc, hg⟩
      have S3 := Lib.hid (S2.out.call hc hg)
      clear hc hg S2
      cases b
      case true =>
        go_wp2_with fail
        refine (pick_any _ g _ 1000 (by omega) (by omega) (by omega) S3.out.cur).mono ?_
        rintro e w4 ⟨x, x0, x1, rfl, hc, hg⟩
        have S4 := Lib.hid (S3.out.call hc hg)
        have x2 : x ≤ 1000 := by omega
        clear hc hg S3 x1
        go_wp2
        go_ret
        exact ⟨_, wf_small (by omega) (by omega), rfl, S4.out.cur.more (by omega), S4.out.gr⟩
      case false =>
        go_wp2_with fail
        refine (pick_any _ g _ 120 (by omega) (by omega) (by omega) S3.out.cur).mono ?_
        rintro e w4 ⟨x, x0, x1, rfl, hc, hg⟩
        have S4 := Lib.hid (S3.out.call hc hg)
        have x2 : x ≤ 120 := by omega
        clear hc hg S3 x1
        go_wp2
        go_ret
        exact ⟨_, wf_small (by omega) (by omega), rfl, S4.out.cur.more (by omega), S4.out.gr⟩
theorem among_drew (w : World) (g A : Nat) (vs : Array Value) (T : TypeId) (L : Nat) (hL : vs.size = L) (h0 : 0 < L) (h1 : L ≤ 1000) (hv : vs.all isI = true) (hA : A ≤ 900000) (h : Cur w g A) :
    Calls Try.prog 58 #[.pointer (some ⟨g, 0, none⟩), .slice (some ⟨w.heap.size, 0, none⟩) L L] ((w.alloc (.cells vs T)).drew) fun e w' => ∃ x : Int, (Lit.int .i64 x).wf = true ∧ e = .returned (.int .i64 x) ∧ Cur w' g (A + 2) ∧ w.grownBy w' (some g) :=
  (among_arr w.drew g A vs T L hL h0 h1 hv hA (St.drew (St.refl h)).cur).mono fun e w' ⟨x, hx, he, hc, hg⟩ => ⟨x, hx, he, hc, hg.os, hg.tape, hg.output, hg.size, hg.block⟩
theorem St.draws {w W : World} {g A : Nat} (h : St w W g A) (n : Nat) : St w (W.drewN n) g A := ⟨h.cur.kept (below_drewN (Below.refl W.heap.size W) n) h.cur.lt, h.gr.os, h.gr.tape, h.gr.output, h.gr.size, h.gr.block⟩
theorem Box2.drew {W : World} {r : Nat} {a b : Value} (h : Box2 W r a b) : Box2 W.drew r a b := h.kept (Below.drew (Below.refl W.heap.size W)) h.lt
theorem Box2.alloc {W : World} {r : Nat} {a b : Value} (h : Box2 W r a b) (o : Obj) : Box2 (W.alloc o) r a b := h.kept ((Below.refl W.heap.size W).alloc (Nat.le_refl _) o) h.lt
end Go.Proofs.Ytebbafapcknllaa
