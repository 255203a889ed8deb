/-
  WHAT 'FnRecordsFirst' IS DRAWN BY (gen_rbd.py).
-/
import Derived.Test.YtponmblponfdaaaArgB
namespace Go.Proofs.Ytponmblponfdaaa
open Go.RowKit
set_option linter.unusedVariables false

set_option maxRecDepth 100000 in
set_option maxHeartbeats 8000000 in
theorem DrawStepRecords_any (w : World) (v : Value) (hb : BytesArg w v) :
    Calls Try.prog 5 #[v] w fun e w' => ∃ t p k : Int, e = .returned (.tuple #[.agg #[.int .i64 t, .int .i64 p], .int .i64 k]) ∧ Below w.heap.size w w' := by
  have HD := Lib.hid (DrawSlowestUpTo_any (w.alloc (.cells #[.int .i64 0, .int .i64 0] 25)) v (hb.kept ((Below.refl w.heap.size w).alloc (Nat.le_refl _) _) (Nat.le_refl _)))
  have L0 := Lib.hid ((Below.refl w.heap.size w).alloc (Nat.le_refl _) (.cells #[.int .i64 0, .int .i64 0] 25))
  have B0 := Lib.hid (Box2.new w (.int .i64 0) (.int .i64 0) 25)
  obtain ⟨av, nv, cv, hv, -, -⟩ := hb
  subst hv
  go_enter Try.func5, Try.ntmps5
  go_wp2_with fail
  refine HD.out.mono ?_
  rintro e w1 ⟨t, p, k, rfl, hb1⟩
  have L1 := Lib.hid (L0.out.trans (hb1.mono (by simp)))
  obtain ⟨d0, d1, f0, f1, hz⟩ := B0.out.kept hb1 (by simp)
  clear hb1 B0 L0
  go_wp2
  exact bodyPost_ret (v := .tuple #[.agg #[.int .i64 t, .int .i64 p], .int .i64 k]) (by simp [results, Try.results5, go_sem, d0, d1]) rfl ⟨t, p, k, rfl, (L1.out.setCell (Nat.le_refl _) _).setCell (Nat.le_refl _) _⟩
set_option maxRecDepth 100000 in
set_option maxHeartbeats 8000000 in
theorem DrawFallsOf_any (w : World) (v : Value) (hb : BytesArg w v) :
    Calls Try.prog 28 #[v] w fun e w' => ∃ t p k : Int, e = .returned (.tuple #[.agg #[.int .i64 t, .int .i64 p], .int .i64 k]) ∧ Below w.heap.size w w' := by
  have HD := Lib.hid (DrawSlowestUpTo_any (w.alloc (.cells #[.int .i64 0, .int .i64 0] 25)) v (hb.kept ((Below.refl w.heap.size w).alloc (Nat.le_refl _) _) (Nat.le_refl _)))
  have L0 := Lib.hid ((Below.refl w.heap.size w).alloc (Nat.le_refl _) (.cells #[.int .i64 0, .int .i64 0] 25))
  have B0 := Lib.hid (Box2.new w (.int .i64 0) (.int .i64 0) 25)
  obtain ⟨av, nv, cv, hv, -, -⟩ := hb
  subst hv
  go_enter Try.func28, Try.ntmps28
  go_wp2_with fail
  refine HD.out.mono ?_
  rintro e w1 ⟨t, p, k, rfl, hb1⟩
  have L1 := Lib.hid (L0.out.trans (hb1.mono (by simp)))
  obtain ⟨d0, d1, f0, f1, hz⟩ := B0.out.kept hb1 (by simp)
  clear hb1 B0 L0
  go_wp2
  exact bodyPost_ret (v := .tuple #[.agg #[.int .i64 t, .int .i64 p], .int .i64 k]) (by simp [results, Try.results28, go_sem, d0, d1]) rfl ⟨t, p, k, rfl, (L1.out.setCell (Nat.le_refl _) _).setCell (Nat.le_refl _) _⟩
set_option maxRecDepth 100000 in
set_option maxHeartbeats 8000000 in
theorem DrawWithSteps_any (w : World) (v : Value) (hb : BytesArg w v) :
    Calls Try.prog 23 #[v] w fun e w' => ∃ t p k q : Int, e = .returned (.tuple #[.agg #[.int .i64 t, .int .i64 p], .int .i64 k, .int .i64 q]) ∧ Below w.heap.size w w' := by
  obtain ⟨g, hge⟩ : ∃ g, g = w.heap.size + 1 := ⟨_, rfl⟩
  have hlt : w.heap.size ≠ g := by omega
  have C0 : Hid (Cur ((w.alloc (.cells #[.int .i64 0, .int .i64 0] 25)).alloc (.cells #[v, .int .i64 0, .int .u64 0] 63)) g 0) := Lib.hid (by rw [hge]; exact Cur.new hb _ _ _ _)
  have B0 := Lib.hid ((Box2.new w (.int .i64 0) (.int .i64 0) 25).alloc (.cells #[v, .int .i64 0, .int .u64 0] 63))
  have L0 := Lib.hid (((Below.refl w.heap.size w).alloc (Nat.le_refl _) (.cells #[.int .i64 0, .int .i64 0] 25)).alloc (by simp) (.cells #[v, .int .i64 0, .int .u64 0] 63))
  obtain ⟨av, nv, cv, hv, -, -⟩ := hb
  subst hv
  go_enter Try.func23, Try.ntmps23
  go_wp2_with fail
  rw [← hge]
  refine (limited_any _ g 0 (by omega) C0.out).mono ?_
  rintro e w1 ⟨t, p, k, rfl, hc, hg⟩
  have hgl := hc.lt
  have L2 := Lib.hid ((L0.out.grown hg (by simp; omega) (fun j hj => by injection hj; omega)).alloc (by have := (B0.out.grown' hg hlt).lt; omega) (.cells #[.int .i64 t, .int .i64 p] 25))
  have B2 := Lib.hid ((B0.out.grown' hg hlt).alloc (.cells #[.int .i64 t, .int .i64 p] 25))
  have D2 := Lib.hid (Box2.new w1 (.int .i64 t) (.int .i64 p) 25)
  have C2 := Lib.hid (hc.kept ((Below.refl w1.heap.size w1).alloc (Nat.le_refl _) (.cells #[.int .i64 t, .int .i64 p] 25)) hgl)
  have hne2 : w1.heap.size ≠ g := by omega
  have hz : w.heap.size < w1.heap.size := (B0.out.grown' hg hlt).lt
  have hz1 : ¬ (w.heap.size = w1.heap.size) := by omega
  have hz2 : ¬ (w1.heap.size = w.heap.size) := by omega
  clear hc hg C0 B0 L0
  go_wp2_with fail
  generalize hW : w1.alloc (.cells #[.int .i64 t, .int .i64 p] 25) = W2 at L2 B2 C2 D2 ⊢
  clear hW
  obtain ⟨d0, d1, f0, f1, hz3⟩ := D2.out
  go_region_with (go_at_call 51; rw [← hge]; (first | refine (among_arr _ g _ _ _ 9 rfl (by decide) (by decide) (by kernel_rfl) (by omega) C2.out).mono ?_ | refine (among_drew _ g _ _ _ 9 rfl (by decide) (by decide) (by kernel_rfl) (by omega) C2.out).mono ?_); rintro e w9 ⟨q, hq, rfl, hc, hg⟩; have L9 := Lib.hid (L2.out.grown hg (by have := B2.out.lt; omega) (fun j hj => by injection hj; omega)); obtain ⟨d0, d1, f0, f1, hz5⟩ := Box2.grown' D2.out hg (by omega); obtain ⟨e0, e1, k0, k1, hz6⟩ := Box2.grown' B2.out hg hlt)
  all_goals
    go_wp2_with fail
    have M9 := (L9.out.setCell (p := ⟨w.heap.size, 0, none⟩) (Nat.le_refl _) (.int .i64 t)).setCell (p := ⟨w.heap.size, 1, none⟩) (Nat.le_refl _) (.int .i64 p)
    first
      | exact bodyPost_ret (v := .tuple #[.agg #[.int .i64 t, .int .i64 p], .int .i64 k, .int .i64 q]) (by simp [results, Try.results23, go_sem, e0, e1]) rfl ⟨t, p, k, q, rfl, M9⟩
      | exact bodyPost_ret (v := .tuple #[.agg #[.int .i64 t, .int .i64 p], .int .i64 k, .int .i64 q]) (by simp [results, Try.results23, go_sem, e0, e1]) rfl ⟨t, p, k, q, rfl, M9.drew⟩
end Go.Proofs.Ytponmblponfdaaa
