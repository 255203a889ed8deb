/-
  FROM WHAT THE STATEMENT SAYS OF BYTES THAT ARE GIVEN TO 'BytesAny'; what is kept of maps in blocks of their own; 'big' of the laws.
  WHAT IS DRAWN: 'numbered', 'limited', 'DrawPathsMerge', 'DrawPeakRecords'.
-/
import Derived.Test.YtponmblponfdaaaCur
import Derived.ChangeSlices
import Derived.ChangeOld
import Derived.Carry
import Derived.ProofKit
namespace Go.Proofs.Ytponmblponfdaaa
open Go.ChangeShapes Go.WideShapes Go.RowKit
set_option linter.unusedVariables false

/-- Bytes that a call is given, however many. -/
def BytesAny (W : World) (v : Value) : Prop := ∃ (a : Option Addr) (n cap : Nat), v = .slice a n cap ∧ ∀ j, j < n → ∃ b off x, a = some ⟨b, off, none⟩ ∧ b < W.heap.size ∧ W.cell? ⟨b, off + j, none⟩ = some (.int .u8 x) ∧ 0 ≤ x ∧ x ≤ 255
theorem cell_heapB {w : World} {a : Addr} {v : Value} (h : w.cell? a = some v) : a.block < w.heap.size := by
  unfold World.cell? at h
  split at h
  · rename_i hs
    exact (Array.getElem?_eq_some_iff.1 hs).1
  · cases h
theorem cellsByte : Try.prog.cellsOf 5 = 1 := by kernel_rfl
theorem byte_bounds {x : Int} (h : (Lit.int .u8 x).wf = true) : 0 ≤ x ∧ x ≤ 255 := by
  simp [Lit.wf, IntKind.min, IntKind.max, IntKind.signed, IntKind.bits] at h
  omega
theorem argB_of_trod {H : Type} {enc : TypeId × Value → H} {W : World} {v : Value} {d : DataW H} {p : List MemPlace} (hv : ∃ a len cap, v = .slice a len cap)
    (h : DataW.Trod enc Try.prog W 0 (fun _ => true) true 22 v d p) : BytesAny W v := by
  obtain ⟨a0, len, cap, rfl⟩ := hv
  obtain ⟨fuel, hf⟩ := h
  rcases open_ints Try.underlying22 Try.underlying5 cellsByte hf with ⟨hcs, hx⟩ | ⟨a, len', cap', zs, hcs, _, hl, hm, hz, hx, hcell, hwz⟩
  · simp [Value.cells] at hcs
    obtain ⟨rfl, rfl, rfl⟩ := hcs
    exact ⟨none, 0, 0, rfl, fun j hj => by omega⟩
  · simp [Value.cells] at hcs
    obtain ⟨rfl, rfl, rfl⟩ := hcs
    simp only [if_true] at hz
    refine ⟨some a, len, cap, rfl, fun j hj => ?_⟩
    have hc := hcell j (by omega)
    obtain ⟨b, off, spot⟩ := a
    have hspot : spot = none := by simpa [Addr.add] using World.cell?_spot (hcell 0 (by omega))
    subst hspot
    have hb := cell_heapB hc
    rw [add_plain] at hc hb
    have hw : (Lit.int .u8 (zs.getD j 0)).wf = true := by
      rw [List.getD_eq_getElem?_getD, List.getElem?_eq_getElem (by omega)]
      exact hwz _ (List.getElem_mem _)
    have h01 : 0 ≤ zs.getD j 0 ∧ zs.getD j 0 ≤ 255 := byte_bounds hw
    exact ⟨b, off, zs.getD j 0, rfl, hb, hc, h01.1, h01.2⟩
theorem argBackB {H : Type} {enc : TypeId × Value → H} {W W' : World} {v : Value} {d : DataW H} {p : List MemPlace} (hl : laidOutB Try.prog = true) (h : DataW.Trod enc Try.prog W 0 (fun _ => true) true 22 v d p) (hb : Below W.heap.size W W') :
    DataW.Trod enc Try.prog W' 0 (fun b => decide (b < W.heap.size)) true 22 v d p := by
  refine Below.trod hl (by kernel_rfl) (of_decide_eq_true (by kernel_rfl)) h hb ?_
  obtain ⟨fuel, hf⟩ := h
  exact DataW.trod_lt _ _ _ _ hf
/-- What is kept from call to call: maps in blocks, and what stands below. -/
def KpB (w W : World) (L : List (Nat × Int × Int)) : Prop := (∀ x ∈ L, x.1 < W.heap.size ∧ W.cell? ⟨x.1, 0, none⟩ = some (.int .i64 x.2.1) ∧ W.cell? ⟨x.1, 1, none⟩ = some (.int .i64 x.2.2)) ∧ Below w.heap.size w W
theorem KpB.next {w W W' : World} {L : List (Nat × Int × Int)} (h : KpB w W L) (hb : Below W.heap.size W W') : KpB w W' L :=
  ⟨fun x hx => by
    obtain ⟨h1, h2, h3⟩ := h.1 x hx
    exact ⟨Nat.lt_of_lt_of_le h1 hb.size, (hb.cell (p := ⟨x.1, 0, none⟩) h1).trans h2, (hb.cell (p := ⟨x.1, 1, none⟩) h1).trans h3⟩, h.2.trans (hb.mono h.2.size)⟩
theorem KpB.add {w W : World} {L : List (Nat × Int × Int)} (h : KpB w W L) (t p : Int) (T : TypeId) : KpB w (W.alloc (.cells #[.int .i64 t, .int .i64 p] T)) ((W.heap.size, t, p) :: L) := by
  have hb : Below W.heap.size W (W.alloc (.cells #[.int .i64 t, .int .i64 p] T)) := (Below.refl W.heap.size W).alloc (Nat.le_refl _) _
  refine ⟨fun x hx => ?_, h.2.trans (hb.mono h.2.size)⟩
  rcases List.mem_cons.1 hx with rfl | hx
  · refine ⟨by simp, ?_, ?_⟩ <;> go_simp
  · exact (h.next hb).1 x hx
theorem KpB.get {w W : World} {L : List (Nat × Int × Int)} (h : KpB w W L) {b : Nat} {t p : Int} (hx : (b, t, p) ∈ L) : W.cell? ⟨b, 0, none⟩ = some (.int .i64 t) ∧ W.cell? ⟨b, 1, none⟩ = some (.int .i64 p) := (h.1 _ hx).2
/-- Are the bytes too many? -/
def bigB (n m : Nat) : Bool := decide (1048576 < (n : Int)) || decide (1048576 - (n : Int) < (m : Int))
set_option maxRecDepth 100000 in
set_option maxHeartbeats 1000000 in
theorem big_any (a a' : Option Addr) (n m cap cap' : Nat) (w : World) :
    Calls Try.prog 4 #[.slice a n cap, .slice a' m cap'] w fun e w' => e = .returned (.bool (bigB n m)) ∧ w = w' := by
  unfold bigB
  by_cases h1 : 1048576 < (n : Int)
  · go_enter Try.func4, Try.ntmps4
    go_wp2
    go_ret
    exact ⟨by first | rfl | (rw [decide_eq_true (show 1048576 < (n : Int) by omega), Bool.true_or]; rfl), rfl⟩
  · by_cases h2 : 1048576 - (n : Int) < (m : Int)
    · go_enter Try.func4, Try.ntmps4
      go_wp2
      go_ret
      exact ⟨by first | rfl | (rw [decide_eq_true (show 1048576 - (n : Int) < (m : Int) by omega), Bool.or_true]; rfl), rfl⟩
    · go_enter Try.func4, Try.ntmps4
      go_wp2
      go_ret
      exact ⟨by first | rfl | (rw [decide_eq_false (show ¬ 1048576 < (n : Int) by omega), decide_eq_false (show ¬ 1048576 - (n : Int) < (m : Int) by omega)]; rfl), rfl⟩
theorem BytesAny.small {W : World} {a : Option Addr} {n cap : Nat} (h : BytesAny W (.slice a n cap)) (hn : n ≤ 1048576) : BytesArg W (.slice a n cap) := by
  obtain ⟨a', n', cap', he, hx⟩ := h
  injection he with h1 h2 h3
  subst h1 h2 h3
  exact ⟨a, n, cap, rfl, hn, hx⟩
end Go.Proofs.Ytponmblponfdaaa

namespace Go.Proofs.Ytponmblponfdaaa
open Go.RowKit
set_option linter.unusedVariables false

theorem Box2.put {W : World} {r : Nat} {a b : Value} (h : Box2 W r a b) (x y : Value) : Box2 ((W.setCell ⟨r, 0, none⟩ x).setCell ⟨r, 1, none⟩ y) r x y := by
  obtain ⟨c0, c1, f0, f1, lt⟩ := h
  refine ⟨?_, ?_, ?_, ?_, by simpa using lt⟩
  all_goals simp [go_sem, c0, c1, f0, f1]
theorem Box2.set_off {W : World} {r r' : Nat} {a b : Value} (h : Box2 W r a b) (hne : r ≠ r') (x y : Value) : Box2 ((W.setCell ⟨r', 0, none⟩ x).setCell ⟨r', 1, none⟩ y) r a b := by
  obtain ⟨c0, c1, f0, f1, lt⟩ := h
  have hn : ¬ (r' = r) := fun e => hne e.symm
  refine ⟨?_, ?_, ?_, ?_, by simpa using lt⟩
  · exact (World.cell?_setCell_other _ _ _ _ (by simp)).trans ((World.cell?_setCell_other _ _ _ _ (by simp)).trans c0)
  · exact (World.cell?_setCell_other _ _ _ _ (by simp)).trans ((World.cell?_setCell_other _ _ _ _ (by simp)).trans c1)
  · rw [World.frozen?_setCell, World.frozen?_setCell]; exact f0
  · rw [World.frozen?_setCell, World.frozen?_setCell]; exact f1

set_option maxRecDepth 100000 in
set_option maxHeartbeats 8000000 in
theorem numbered_any (w : World) (g A : Nat) (hA : A ≤ 600000) (h : Cur w g A) :
    Calls Try.prog 67 #[.pointer (some ⟨g, 0, none⟩)] w fun e w' => ∃ t p x k : Int, (Lit.int .i64 x).wf = true ∧ e = .returned (.tuple #[.agg #[.int .i64 t, .int .i64 p], .int .i64 x, .int .i64 k]) ∧ Cur w' g (A + 40) ∧ w.grownBy w' (some g) := by
  have hlt := h.lt
  have S0 := Lib.hid (St.alloc (St.refl h) (.cells #[.int .i64 0, .int .i64 0] 25))
  have B0 := Lib.hid (Box2.new w (.int .i64 0) (.int .i64 0) 25)
  clear h
  go_enter Try.func67, Try.ntmps67
  go_wp2_with fail
  refine (sureMap_any _ g A (by omega) S0.out.cur).mono ?_
  rintro e w1 ⟨t, p, rfl, hc, hg⟩
  have S1 := S0.out.call hc hg
  have B1 := B0.out.grown hg hlt
  have hz : w.heap.size < w1.heap.size := B1.lt
  have S2 := Lib.hid (S1.alloc (.cells #[.int .i64 t, .int .i64 p] 25))
  have B2 := Lib.hid (B1.alloc (.cells #[.int .i64 t, .int .i64 p] 25))
  have D2 := Lib.hid (Box2.new w1 (.int .i64 t) (.int .i64 p) 25)
  have hz2 : g < w1.heap.size := by omega
  have hwr : w.heap.size ≤ w1.heap.size := by omega
  have hne : w.heap.size ≠ w1.heap.size := by omega
  clear hc hg S0 B0 S1 B1
  go_wp2_with fail
  refine (one_any _ g _ 12 (by omega) (by omega) (by omega) S2.out.cur).mono ?_
  rintro e w2 ⟨b, rfl, hc, hg⟩
  have S3 := Lib.hid (S2.out.call hc hg)
  have B3 := Lib.hid (B2.out.grown hg hlt)
  have D3 := Lib.hid (D2.out.grown hg hz2)
  clear hc hg S2 B2 D2
  cases b
  case true =>
    go_wp2_with fail
    refine (among_arr _ g _ _ _ 6 rfl (by decide) (by decide) (by kernel_rfl) (by omega) S3.out.cur).mono ?_
    rintro e w3 ⟨t2, _, rfl, hc, hg⟩
    have S4 := Lib.hid (S3.out.call hc hg)
    have B4 := Lib.hid (B3.out.grown hg hlt)
    have D4 := Lib.hid (D3.out.grown hg hz2)
    clear hc hg S3 B3 D3
    go_wp2_with fail
    refine (among_arr _ g _ _ _ 5 rfl (by decide) (by decide) (by kernel_rfl) (by omega) S4.out.cur).mono ?_
    rintro e w4 ⟨p2, _, rfl, hc, hg⟩
    have S4b := S4.out.call hc hg
    have B4b := B4.out.grown hg hlt
    have D4b := D4.out.grown hg hz2
    have SX := Lib.hid ((S4b.set (r := w1.heap.size) (k := 0) hwr hlt (.int .i64 t2)).set (r := w1.heap.size) (k := 1) hwr hlt (.int .i64 p2))
    have BX := Lib.hid (B4b.set_off hne (.int .i64 t2) (.int .i64 p2))
    have DX := Lib.hid (D4b.put (.int .i64 t2) (.int .i64 p2))
    obtain ⟨d0, d1, f0, f1, hz3⟩ := D4b
    clear hc hg S4 B4 D4 S4b B4b
    go_wp2_with fail
    refine (number_any _ g _ (by omega) SX.out.cur).mono ?_
    rintro e w5 ⟨x, hx, rfl, hc, hg⟩
    have HX := Lib.hid hx
    have S5 := Lib.hid (SX.out.call hc hg)
    have B5 := Lib.hid (BX.out.grown hg hlt)
    have D5 := Lib.hid (DX.out.grown hg hz2)
    clear hc hg SX BX DX hx
    go_wp2_with fail
    refine (one_any _ g _ 8 (by omega) (by omega) (by omega) S5.out.cur).mono ?_
    rintro e w6 ⟨b2, rfl, hc, hg⟩
    have S6 := Lib.hid (S5.out.call hc hg)
    have B6 := Lib.hid (B5.out.grown hg hlt)
    have D6 := Lib.hid (D5.out.grown hg hz2)
    clear hc hg S5 B5 D5
    cases b2
    case true =>
      go_wp2_with fail
      obtain ⟨d0, d1, f0, f1, hz3⟩ := D6.out
      go_region_with (go_at_call 51; (first | refine (among_arr _ g _ _ _ 7 rfl (by decide) (by decide) (by kernel_rfl) (by omega) S6.out.cur).mono ?_ | refine (among_drew _ g _ _ _ 7 rfl (by decide) (by decide) (by kernel_rfl) (by omega) S6.out.cur).mono ?_); rintro e w9 ⟨q, hq, rfl, hc, hg⟩; obtain ⟨d0, d1, f0, f1, hz3⟩ := Box2.grown D6.out hg hz2; obtain ⟨e0, e1, k0, k1, hz4⟩ := Box2.grown B6.out hg hlt)
      all_goals
        go_wp2_with fail
        have S9 := ((S6.out.call hc hg).set (r := w.heap.size) (k := 0) (Nat.le_refl _) hlt (.int .i64 t2)).set (r := w.heap.size) (k := 1) (Nat.le_refl _) hlt (.int .i64 p2)
        first
          | exact bodyPost_ret (v := .tuple #[.agg #[.int .i64 t2, .int .i64 p2], .int .i64 x, .int .i64 q]) (by simp [results, Try.results67, go_sem, e0, e1]) rfl ⟨t2, p2, x, q, HX.out, rfl, S9.cur.more (by omega), S9.gr⟩
          | exact bodyPost_ret (v := .tuple #[.agg #[.int .i64 t2, .int .i64 p2], .int .i64 x, .int .i64 q]) (by simp [results, Try.results67, go_sem, e0, e1]) rfl ⟨t2, p2, x, q, HX.out, rfl, S9.drew.cur.more (by omega), S9.drew.gr⟩
    case false =>
      go_wp2_with fail
      obtain ⟨d0, d1, f0, f1, hz3⟩ := D6.out
      go_region_with (go_at_call 68; (first | refine (pick_any _ g _ 40 (by omega) (by omega) (by omega) S6.out.cur).mono ?_ | refine (pick_any _ g _ 40 (by omega) (by omega) (by omega) S6.out.drew.cur).mono ?_); rintro e w9 ⟨q, q0, q1, rfl, hc, hg⟩; have S7 : Hid (St w w9 g _) := (by first | exact Lib.hid (S6.out.call hc hg) | exact Lib.hid (S6.out.drew.call hc hg)); obtain ⟨d0, d1, f0, f1, hz3⟩ := (by first | exact Box2.grown D6.out hg hz2 | exact Box2.grown D6.out.drew hg hz2 : Box2 w9 _ (.int .i64 t2) (.int .i64 p2)); obtain ⟨e0, e1, k0, k1, hz4⟩ := (by first | exact Box2.grown B6.out hg hlt | exact Box2.grown B6.out.drew hg hlt : Box2 w9 w.heap.size (.int .i64 0) (.int .i64 0)))
      all_goals
        go_wp2_with fail
        have S9 := (S7.out.set (r := w.heap.size) (k := 0) (Nat.le_refl _) hlt (.int .i64 t2)).set (r := w.heap.size) (k := 1) (Nat.le_refl _) hlt (.int .i64 p2)
        first
          | exact bodyPost_ret (v := .tuple #[.agg #[.int .i64 t2, .int .i64 p2], .int .i64 x, .int .i64 q]) (by simp [results, Try.results67, go_sem, e0, e1]) rfl ⟨t2, p2, x, q, HX.out, rfl, S9.cur.more (by omega), S9.gr⟩
          | exact bodyPost_ret (v := .tuple #[.agg #[.int .i64 t2, .int .i64 p2], .int .i64 x, .int .i64 q]) (by simp [results, Try.results67, go_sem, e0, e1]) rfl ⟨t2, p2, x, q, HX.out, rfl, S9.drew.cur.more (by omega), S9.drew.gr⟩
  case false =>
    obtain ⟨d0, d1, f0, f1, hz3⟩ := D3.out
    go_wp2_with fail
    refine (number_any _ g _ (by omega) S3.out.cur).mono ?_
    rintro e w5 ⟨x, hx, rfl, hc, hg⟩
    have HX := Lib.hid hx
    have S5 := Lib.hid (S3.out.call hc hg)
    have B5 := Lib.hid (B3.out.grown hg hlt)
    have D5 := Lib.hid (D3.out.grown hg hz2)
    clear hc hg S3 B3 D3 hx
    go_wp2_with fail
    refine (one_any _ g _ 8 (by omega) (by omega) (by omega) S5.out.cur).mono ?_
    rintro e w6 ⟨b2, rfl, hc, hg⟩
    have S6 := Lib.hid (S5.out.call hc hg)
    have B6 := Lib.hid (B5.out.grown hg hlt)
    have D6 := Lib.hid (D5.out.grown hg hz2)
    clear hc hg S5 B5 D5
    cases b2
    case true =>
      go_wp2_with fail
      obtain ⟨d0, d1, f0, f1, hz3⟩ := D6.out
      go_region_with (go_at_call 51; (first | refine (among_arr _ g _ _ _ 7 rfl (by decide) (by decide) (by kernel_rfl) (by omega) S6.out.cur).mono ?_ | refine (among_drew _ g _ _ _ 7 rfl (by decide) (by decide) (by kernel_rfl) (by omega) S6.out.cur).mono ?_); rintro e w9 ⟨q, hq, rfl, hc, hg⟩; obtain ⟨d0, d1, f0, f1, hz3⟩ := Box2.grown D6.out hg hz2; obtain ⟨e0, e1, k0, k1, hz4⟩ := Box2.grown B6.out hg hlt)
      all_goals
        go_wp2_with fail
        have S9 := ((S6.out.call hc hg).set (r := w.heap.size) (k := 0) (Nat.le_refl _) hlt (.int .i64 t)).set (r := w.heap.size) (k := 1) (Nat.le_refl _) hlt (.int .i64 p)
        first
          | exact bodyPost_ret (v := .tuple #[.agg #[.int .i64 t, .int .i64 p], .int .i64 x, .int .i64 q]) (by simp [results, Try.results67, go_sem, e0, e1]) rfl ⟨t, p, x, q, HX.out, rfl, S9.cur.more (by omega), S9.gr⟩
          | exact bodyPost_ret (v := .tuple #[.agg #[.int .i64 t, .int .i64 p], .int .i64 x, .int .i64 q]) (by simp [results, Try.results67, go_sem, e0, e1]) rfl ⟨t, p, x, q, HX.out, rfl, S9.drew.cur.more (by omega), S9.drew.gr⟩
    case false =>
      go_wp2_with fail
      obtain ⟨d0, d1, f0, f1, hz3⟩ := D6.out
      go_region_with (go_at_call 68; (first | refine (pick_any _ g _ 40 (by omega) (by omega) (by omega) S6.out.cur).mono ?_ | refine (pick_any _ g _ 40 (by omega) (by omega) (by omega) S6.out.drew.cur).mono ?_); rintro e w9 ⟨q, q0, q1, rfl, hc, hg⟩; have S7 : Hid (St w w9 g _) := (by first | exact Lib.hid (S6.out.call hc hg) | exact Lib.hid (S6.out.drew.call hc hg)); obtain ⟨d0, d1, f0, f1, hz3⟩ := (by first | exact Box2.grown D6.out hg hz2 | exact Box2.grown D6.out.drew hg hz2 : Box2 w9 _ (.int .i64 t) (.int .i64 p)); obtain ⟨e0, e1, k0, k1, hz4⟩ := (by first | exact Box2.grown B6.out hg hlt | exact Box2.grown B6.out.drew hg hlt : Box2 w9 w.heap.size (.int .i64 0) (.int .i64 0)))
      all_goals
        go_wp2_with fail
        have S9 := (S7.out.set (r := w.heap.size) (k := 0) (Nat.le_refl _) hlt (.int .i64 t)).set (r := w.heap.size) (k := 1) (Nat.le_refl _) hlt (.int .i64 p)
        first
          | exact bodyPost_ret (v := .tuple #[.agg #[.int .i64 t, .int .i64 p], .int .i64 x, .int .i64 q]) (by simp [results, Try.results67, go_sem, e0, e1]) rfl ⟨t, p, x, q, HX.out, rfl, S9.cur.more (by omega), S9.gr⟩
          | exact bodyPost_ret (v := .tuple #[.agg #[.int .i64 t, .int .i64 p], .int .i64 x, .int .i64 q]) (by simp [results, Try.results67, go_sem, e0, e1]) rfl ⟨t, p, x, q, HX.out, rfl, S9.drew.cur.more (by omega), S9.drew.gr⟩

set_option maxRecDepth 100000 in
set_option maxHeartbeats 8000000 in
theorem limited_any (w : World) (g A : Nat) (hA : A ≤ 500000) (h : Cur w g A) :
    Calls Try.prog 50 #[.pointer (some ⟨g, 0, none⟩)] w fun e w' => ∃ t p k : Int, e = .returned (.tuple #[.agg #[.int .i64 t, .int .i64 p], .int .i64 k]) ∧ Cur w' g (A + 50) ∧ w.grownBy w' (some g) := by
  have hlt := h.lt
  have S0 := Lib.hid (St.alloc (St.refl h) (.cells #[.int .i64 0, .int .i64 0] 25))
  have B0 := Lib.hid (Box2.new w (.int .i64 0) (.int .i64 0) 25)
  clear h
  go_enter Try.func50, Try.ntmps50
  go_wp2_with fail
  refine (numbered_any _ g A (by omega) S0.out.cur).mono ?_
  rintro e w1 ⟨t, p, x, k, _, rfl, hc, hg⟩
  have S1 := S0.out.call hc hg
  have B1 := B0.out.grown hg hlt
  have hz : w.heap.size < w1.heap.size := B1.lt
  have S2 := Lib.hid (S1.alloc (.cells #[.int .i64 t, .int .i64 p] 25))
  have B2 := Lib.hid (B1.alloc (.cells #[.int .i64 t, .int .i64 p] 25))
  have D2 := Lib.hid (Box2.new w1 (.int .i64 t) (.int .i64 p) 25)
  have hz2 : g < w1.heap.size := by omega
  clear hc hg S0 B0 S1 B1
  go_wp2_with fail
  generalize hW : w1.alloc (.cells #[.int .i64 t, .int .i64 p] 25) = W2 at S2 B2 D2 ⊢
  clear hW
  obtain ⟨d0, d1, f0, f1, hz3⟩ := D2.out
  go_region_with (go_at_call 51; (first | refine (among_arr _ g _ _ _ 8 rfl (by decide) (by decide) (by kernel_rfl) (by omega) S2.out.cur).mono ?_ | refine (among_drew _ g _ _ _ 8 rfl (by decide) (by decide) (by kernel_rfl) (by omega) S2.out.cur).mono ?_); rintro e w9 ⟨q, hq, rfl, hc, hg⟩; obtain ⟨d0, d1, f0, f1, hz3⟩ := Box2.grown D2.out hg hz2; obtain ⟨e0, e1, k0, k1, hz4⟩ := Box2.grown B2.out hg hlt)
  all_goals
    go_wp2_with fail
    have S9 := ((S2.out.call hc hg).set (r := w.heap.size) (k := 0) (Nat.le_refl _) hlt (.int .i64 t)).set (r := w.heap.size) (k := 1) (Nat.le_refl _) hlt (.int .i64 p)
    first
      | exact bodyPost_ret (v := .tuple #[.agg #[.int .i64 t, .int .i64 p], .int .i64 q]) (by simp [results, Try.results50, go_sem, e0, e1]) rfl ⟨t, p, q, rfl, S9.cur.more (by omega), S9.gr⟩
      | exact bodyPost_ret (v := .tuple #[.agg #[.int .i64 t, .int .i64 p], .int .i64 q]) (by simp [results, Try.results50, go_sem, e0, e1]) rfl ⟨t, p, q, rfl, S9.drew.cur.more (by omega), S9.drew.gr⟩

set_option maxRecDepth 100000 in
set_option maxHeartbeats 8000000 in
theorem DrawSlowestUpTo_any (w : World) (v : Value) (hb : BytesArg w v) :
    Calls Try.prog 35 #[v] w fun e w' => ∃ t p k : Int, e = .returned (.tuple #[.agg #[.int .i64 t, .int .i64 p], .int .i64 k]) ∧ Below w.heap.size w w' := by
  obtain ⟨g, hge⟩ : ∃ g, g = w.heap.size + 1 := ⟨_, rfl⟩
  have hlt : w.heap.size ≠ g := by omega
  have C0 : Hid (Cur ((w.alloc (.cells #[.int .i64 0, .int .i64 0] 25)).alloc (.cells #[v, .int .i64 0, .int .u64 0] 63)) g 0) := Lib.hid (by rw [hge]; exact Cur.new hb _ _ _ _)
  have B0 := Lib.hid ((Box2.new w (.int .i64 0) (.int .i64 0) 25).alloc (.cells #[v, .int .i64 0, .int .u64 0] 63))
  have L0 := Lib.hid (((Below.refl w.heap.size w).alloc (Nat.le_refl _) (.cells #[.int .i64 0, .int .i64 0] 25)).alloc (by simp) (.cells #[v, .int .i64 0, .int .u64 0] 63))
  obtain ⟨av, nv, cv, hv, -, -⟩ := hb
  subst hv
  go_enter Try.func35, Try.ntmps35
  go_wp2_with fail
  rw [← hge]
  refine (limited_any _ g 0 (by omega) C0.out).mono ?_
  rintro e w1 ⟨t, p, k, rfl, hc, hg⟩
  have L1 := Lib.hid (L0.out.grown hg (by simp; omega) (fun j hj => by injection hj; omega))
  obtain ⟨d0, d1, f0, f1, hz⟩ := B0.out.grown' hg hlt
  clear hc hg C0 B0 L0
  go_wp2
  exact bodyPost_ret (v := .tuple #[.agg #[.int .i64 t, .int .i64 p], .int .i64 k]) (by simp [results, Try.results35, go_sem, d0, d1]) rfl ⟨t, p, k, rfl, (L1.out.setCell (Nat.le_refl _) _).setCell (Nat.le_refl _) _⟩
end Go.Proofs.Ytponmblponfdaaa
