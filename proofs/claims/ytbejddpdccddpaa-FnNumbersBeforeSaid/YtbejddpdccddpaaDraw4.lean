/-
  THE FUNCTIONS THAT DRAW ARGUMENTS: at whatever bytes they hand back a map and integers.
-/
import Derived.Test.YtbejddpdccddpaaDraw
namespace Go.Proofs.Ytbejddpdccddpaa
open Go.RowKit
set_option linter.unusedVariables false

set_option maxRecDepth 100000 in
set_option maxHeartbeats 4000000 in
theorem DrawLevelOf_any (w : World) (v : Value) (hb : BytesArg w v) :
    Calls Try.prog 5 #[v] w fun e w' => ∃ t p r k : Int, e = .returned (.tuple #[.agg #[.int .i64 t, .int .i64 p], .int .i64 r, .int .i64 k]) ∧ Below w.heap.size w w' := by
  obtain ⟨g, hge⟩ : ∃ g, g = w.heap.size + 1 := ⟨_, rfl⟩
  have hlt : w.heap.size ≠ g := by omega
  have C0 : Hid (Cur ((w.alloc (.cells #[.int .i64 0, .int .i64 0] 25)).alloc (.cells #[v, .int .i64 0, .int .u64 0] 46)) g 0) := Lib.hid (by rw [hge]; exact Cur.new hb _ _ _ _)
  have B0 := Lib.hid ((Box2.new w (.int .i64 0) (.int .i64 0) 25).alloc (.cells #[v, .int .i64 0, .int .u64 0] 46))
  have L0 := Lib.hid (((Below.refl w.heap.size w).alloc (Nat.le_refl _) (.cells #[.int .i64 0, .int .i64 0] 25)).alloc (by simp) (.cells #[v, .int .i64 0, .int .u64 0] 46))
  obtain ⟨av, nv, cv, hv, -, -⟩ := hb
  subst hv
  go_enter Try.func5, Try.ntmps5
  go_wp2_with fail
  rw [← hge]
  refine (rooted_any _ g 0 (by omega) C0.out).mono ?_
  rintro e w1 ⟨t, p, r, k, _, _, rfl, hc, hg⟩
  have L1 := Lib.hid (L0.out.grown hg (by simp; omega) (fun j hj => by injection hj; omega))
  obtain ⟨d0, d1, f0, f1, hz⟩ := B0.out.grown' hg hlt
  clear hc hg C0 B0 L0
  go_wp2
  exact bodyPost_ret (v := .tuple #[.agg #[.int .i64 t, .int .i64 p], .int .i64 r, .int .i64 k]) (by simp [results, Try.results5, go_sem, d0, d1]) rfl ⟨t, p, r, k, rfl, (L1.out.setCell (Nat.le_refl _) _).setCell (Nat.le_refl _) _⟩
set_option maxRecDepth 100000 in
set_option maxHeartbeats 4000000 in
theorem DrawNumbersBefore_any (w : World) (v : Value) (hb : BytesArg w v) :
    Calls Try.prog 21 #[v] w fun e w' => ∃ t p x : Int, e = .returned (.tuple #[.agg #[.int .i64 t, .int .i64 p], .int .i64 x]) ∧ Below w.heap.size w w' := by
  obtain ⟨g, hge⟩ : ∃ g, g = w.heap.size + 1 := ⟨_, rfl⟩
  have hlt : w.heap.size ≠ g := by omega
  have C0 : Hid (Cur ((w.alloc (.cells #[.int .i64 0, .int .i64 0] 25)).alloc (.cells #[v, .int .i64 0, .int .u64 0] 46)) g 0) := Lib.hid (by rw [hge]; exact Cur.new hb _ _ _ _)
  have B0 := Lib.hid ((Box2.new w (.int .i64 0) (.int .i64 0) 25).alloc (.cells #[v, .int .i64 0, .int .u64 0] 46))
  have L0 := Lib.hid (((Below.refl w.heap.size w).alloc (Nat.le_refl _) (.cells #[.int .i64 0, .int .i64 0] 25)).alloc (by simp) (.cells #[v, .int .i64 0, .int .u64 0] 46))
  obtain ⟨av, nv, cv, hv, -, -⟩ := hb
  subst hv
  go_enter Try.func21, Try.ntmps21
  go_wp2_with fail
  rw [← hge]
  refine (mapped_any _ g 0 (by omega) C0.out).mono ?_
  rintro e w1 ⟨t, p, rfl, hc, hg⟩
  have L1 := Lib.hid (L0.out.grown hg (by simp; omega) (fun j hj => by injection hj; omega))
  have B1 := Lib.hid (B0.out.grown' hg hlt)
  have C1 := Lib.hid hc
  clear hc hg C0 B0 L0
  go_wp2_with fail
  rw [← hge]
  refine (number_any _ g _ (by omega) C1.out).mono ?_
  rintro e w2 ⟨x, -, rfl, hc, hg⟩
  have L2 := Lib.hid (L1.out.grown hg (by have := B1.out.lt; omega) (fun j hj => by injection hj; omega))
  obtain ⟨d0, d1, f0, f1, hz⟩ := B1.out.grown' hg hlt
  clear hc hg C1 B1 L1
  go_wp2
  exact bodyPost_ret (v := .tuple #[.agg #[.int .i64 t, .int .i64 p], .int .i64 x]) (by simp [results, Try.results21, go_sem, d0, d1]) rfl ⟨t, p, x, rfl, (L2.out.setCell (Nat.le_refl _) _).setCell (Nat.le_refl _) _⟩
set_option maxRecDepth 100000 in
set_option maxHeartbeats 4000000 in
theorem DrawIsBarren_any (w : World) (v : Value) (hb : BytesArg w v) :
    Calls Try.prog 27 #[v] w fun e w' => ∃ t p x : Int, e = .returned (.tuple #[.agg #[.int .i64 t, .int .i64 p], .int .i64 x]) ∧ Below w.heap.size w w' := by
  have HD := Lib.hid (DrawNumbersBefore_any (w.alloc (.cells #[.int .i64 0, .int .i64 0] 25)) v (hb.kept ((Below.refl w.heap.size w).alloc (Nat.le_refl _) _) (Nat.le_refl _)))
  obtain ⟨av, nv, cv, hv, -, -⟩ := hb
  subst hv
  have B0 := Lib.hid (Box2.new w (.int .i64 0) (.int .i64 0) 25)
  go_enter Try.func27, Try.ntmps27
  go_wp2_with fail
  refine HD.out.mono ?_
  rintro e w1 ⟨t, p, x, rfl, hb1⟩
  have L1 := Lib.hid (((Below.refl w.heap.size w).alloc (Nat.le_refl _) (.cells #[.int .i64 0, .int .i64 0] 25)).trans (hb1.mono (by simp)))
  obtain ⟨d0, d1, f0, f1, hz⟩ := B0.out.kept hb1 (by simp)
  clear hb1 HD B0
  go_wp2
  exact bodyPost_ret (v := .tuple #[.agg #[.int .i64 t, .int .i64 p], .int .i64 x]) (by simp [results, Try.results27, go_sem, d0, d1]) rfl ⟨t, p, x, rfl, (L1.out.setCell (Nat.le_refl _) _).setCell (Nat.le_refl _) _⟩
set_option maxRecDepth 100000 in
set_option maxHeartbeats 4000000 in
theorem DrawOddBefore_any (w : World) (v : Value) (hb : BytesArg w v) :
    Calls Try.prog 24 #[v] w fun e w' => ∃ t p x : Int, e = .returned (.tuple #[.agg #[.int .i64 t, .int .i64 p], .int .i64 x]) ∧ Below w.heap.size w w' := by
  obtain ⟨g, hge⟩ : ∃ g, g = w.heap.size + 1 := ⟨_, rfl⟩
  have hlt : w.heap.size ≠ g := by omega
  have C0 : Hid (Cur ((w.alloc (.cells #[.int .i64 0, .int .i64 0] 25)).alloc (.cells #[v, .int .i64 0, .int .u64 0] 46)) g 0) := Lib.hid (by rw [hge]; exact Cur.new hb _ _ _ _)
  have B0 := Lib.hid ((Box2.new w (.int .i64 0) (.int .i64 0) 25).alloc (.cells #[v, .int .i64 0, .int .u64 0] 46))
  have L0 := Lib.hid (((Below.refl w.heap.size w).alloc (Nat.le_refl _) (.cells #[.int .i64 0, .int .i64 0] 25)).alloc (by simp) (.cells #[v, .int .i64 0, .int .u64 0] 46))
  obtain ⟨av, nv, cv, hv, -, -⟩ := hb
  subst hv
  go_enter Try.func24, Try.ntmps24
  go_wp2_with fail
  rw [← hge]
  refine (mapped_any _ g 0 (by omega) C0.out).mono ?_
  rintro e w1 ⟨t, p, rfl, hc, hg⟩
  have L1 := Lib.hid (L0.out.grown hg (by simp; omega) (fun j hj => by injection hj; omega))
  have B1 := Lib.hid (B0.out.grown' hg hlt)
  have C1 := Lib.hid hc
  clear hc hg C0 B0 L0
  go_wp2_with fail
  rw [← hge]
  refine (number_any _ g _ (by omega) C1.out).mono ?_
  rintro e w2 ⟨x, -, rfl, hc, hg⟩
  have L2 := Lib.hid (L1.out.grown hg (by have := B1.out.lt; omega) (fun j hj => by injection hj; omega))
  have B2 := Lib.hid (B1.out.grown' hg hlt)
  have hz2 : g < w2.heap.size := hc.lt
  have hz3 : w.heap.size < w2.heap.size := B2.out.lt
  have C3 := Lib.hid (hc.kept ((Below.refl w2.heap.size w2).alloc (Nat.le_refl _) (.cells #[.int .i64 t, .int .i64 p] 25)) hz2)
  have B3 := Lib.hid (B2.out.alloc (.cells #[.int .i64 t, .int .i64 p] 25))
  have D3 := Lib.hid (Box2.new w2 (.int .i64 t) (.int .i64 p) 25)
  have L3 := Lib.hid (L2.out.alloc (Nat.le_of_lt hz3) (.cells #[.int .i64 t, .int .i64 p] 25))
  have HG := Lib.hid (fun w => mpGood_any t p w)
  clear hc hg C1 B1 L1 B2 L2
  go_wp2_with fail
  refine (HG.out _).mono ?_
  rintro e w3 ⟨rfl, hb3⟩
  have C4 := Lib.hid (C3.out.kept hb3 C3.out.lt)
  have B4 := Lib.hid (B3.out.kept hb3 B3.out.lt)
  have D4 := Lib.hid (D3.out.kept hb3 D3.out.lt)
  have L4 := Lib.hid (L3.out.trans (hb3.mono (Nat.le_of_lt B3.out.lt)))
  clear hb3 C3 B3 D3 L3 HG
  cases hgd : goodB t p
  · obtain ⟨d0, d1, f0, f1, hz⟩ := B4.out
    obtain ⟨e0, e1, _, _, _⟩ := D4.out
    clear hgd
    go_wp2_with fail
    first
      | exact bodyPost_ret (v := .tuple #[.agg #[.int .i64 t, .int .i64 p], .int .i64 x]) (by simp [results, Try.results24, go_sem, d0, d1]) rfl ⟨t, p, x, rfl, (L4.out.setCell (Nat.le_refl _) _).setCell (Nat.le_refl _) _⟩
      | exact bodyPost_ret (v := .tuple #[.agg #[.int .i64 t, .int .i64 p], .int .i64 x]) (by simp [results, Try.results24, go_sem, d0, d1]) rfl ⟨t, p, x, rfl, ((L4.out.setCell (Nat.le_refl _) _).setCell (Nat.le_refl _) _).drew⟩
  · have GD := Lib.hid hgd
    clear hgd
    go_wp2_with fail
    rw [← hge]
    refine (one_any _ g _ 2 (by omega) (by omega) (by omega) C4.out).mono ?_
    rintro e w4 ⟨b, rfl, hc, hg⟩
    have L5 := Lib.hid (L4.out.grown hg (Nat.le_of_lt B4.out.lt) (fun j hj => by injection hj; omega))
    have B5 := Lib.hid (B4.out.grown' hg hlt)
    have D5 := Lib.hid (D4.out.grown' hg (Nat.ne_of_gt hz2))
    have C5 := Lib.hid hc
    clear hc hg L4 B4 C4 D4
    cases b
    · obtain ⟨d0, d1, f0, f1, hz⟩ := B5.out
      obtain ⟨e0, e1, _, _, _⟩ := D5.out
      go_wp2_with fail
      first
        | exact bodyPost_ret (v := .tuple #[.agg #[.int .i64 t, .int .i64 p], .int .i64 x]) (by simp [results, Try.results24, go_sem, d0, d1]) rfl ⟨t, p, x, rfl, (L5.out.setCell (Nat.le_refl _) _).setCell (Nat.le_refl _) _⟩
        | exact bodyPost_ret (v := .tuple #[.agg #[.int .i64 t, .int .i64 p], .int .i64 x]) (by simp [results, Try.results24, go_sem, d0, d1]) rfl ⟨t, p, x, rfl, ((L5.out.setCell (Nat.le_refl _) _).setCell (Nat.le_refl _) _).drew⟩
    · obtain ⟨e0, e1, -, -, -⟩ := D5.out
      go_wp2_with fail
      go_region_with (go_at_call 52; rw [← hge]; first | refine (pick_any _ g _ 30 (by omega) (by omega) (by omega) C5.out).mono ?_ | refine (pick_any _ g _ 30 (by omega) (by omega) (by omega) (C5.out.kept (Below.drew (Below.refl w4.heap.size w4)) C5.out.lt)).mono ?_; rintro e w9 ⟨q, q0, q1, rfl, hc, hg⟩; obtain ⟨hg9⟩ : Nonempty (w4.grownBy w9 (some g)) := ⟨by first | exact hg | exact ⟨hg.os, hg.tape, hg.output, hg.size, hg.block⟩⟩; obtain ⟨d0, d1, f0, f1, hz9⟩ := B5.out.grown' hg9 hlt; obtain ⟨e0, e1, -, -, -⟩ := D5.out.grown' hg9 (Nat.ne_of_gt hz2); have L9 := Lib.hid (L5.out.grown hg9 (Nat.le_of_lt B5.out.lt) (fun j hj => by injection hj; omega)); clear hc hg hg9 q1 q0)
      all_goals
        go_wp2_with fail
        first
          | exact bodyPost_ret (v := .tuple #[.agg #[.int .i64 t, .int .i64 p], .int .i64 (IntKind.i64.wrap (IntKind.i64.wrap (t * IntKind.i64.wrap (IntKind.i64.wrap (2 * q) + 1)) + p))]) (by simp [results, Try.results24, go_sem, d0, d1]) rfl ⟨t, p, (IntKind.i64.wrap (IntKind.i64.wrap (t * IntKind.i64.wrap (IntKind.i64.wrap (2 * q) + 1)) + p)), rfl, (L9.out.setCell (Nat.le_refl _) _).setCell (Nat.le_refl _) _⟩
          | exact bodyPost_ret (v := .tuple #[.agg #[.int .i64 t, .int .i64 p], .int .i64 (IntKind.i64.wrap (IntKind.i64.wrap (t * IntKind.i64.wrap (IntKind.i64.wrap (2 * q) + 1)) + p))]) (by simp [results, Try.results24, go_sem, d0, d1]) rfl ⟨t, p, (IntKind.i64.wrap (IntKind.i64.wrap (t * IntKind.i64.wrap (IntKind.i64.wrap (2 * q) + 1)) + p)), rfl, ((L9.out.setCell (Nat.le_refl _) _).setCell (Nat.le_refl _) _).drew⟩
end Go.Proofs.Ytbejddpdccddpaa
