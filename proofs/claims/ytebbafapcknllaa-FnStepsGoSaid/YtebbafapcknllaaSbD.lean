/-
  WHAT 'FnStepsGo' IS DRAWN BY (gen_sbd.py).
-/
import Derived.Test.YtebbafapcknllaaOdD
import Derived.Test.YtebbafapcknllaaSgM
namespace Go.Proofs.Ytebbafapcknllaa
open Go.RowKit
set_option linter.unusedVariables false

/-- A map in a block. -/
structure Two9 (W : World) (b : Nat) (t p : Int) : Prop where
  c0 : W.cell? ⟨b, 0, none⟩ = some (.int .i64 t)
  c1 : W.cell? ⟨b, 1, none⟩ = some (.int .i64 p)
  lt : b < W.heap.size
theorem Two9.kept {W W' : World} {b : Nat} {t p : Int} (h : Two9 W b t p) (hb : Below W.heap.size W W') : Two9 W' b t p := ⟨(hb.cell (p := ⟨b, 0, none⟩) h.lt).trans h.c0, (hb.cell (p := ⟨b, 1, none⟩) h.lt).trans h.c1, Nat.lt_of_lt_of_le h.lt hb.size⟩
theorem Two9.new (W : World) (t p : Int) (T : TypeId) : Two9 (W.alloc (.cells #[.int .i64 t, .int .i64 p] T)) W.heap.size t p := ⟨by go_simp, by go_simp, by simp⟩
theorem below_newM (w : World) (X : Obj) : Below w.heap.size w (w.alloc X) := (Below.refl w.heap.size w).alloc (Nat.le_refl _) X
set_option maxRecDepth 100000 in
set_option maxHeartbeats 8000000 in
theorem DrawNumberAfter_any (w : World) (v : Value) (hb : BytesArg w v) :
    Calls Try.prog 5 #[v] w fun e w' => ∃ t p x k : Int, e = .returned (.tuple #[.agg #[.int .i64 t, .int .i64 p], .int .i64 x, .int .i64 k]) ∧ Below w.heap.size w w' := by
  obtain ⟨g, hge⟩ : ∃ g, g = w.heap.size + 1 := ⟨_, rfl⟩
  have hlt : w.heap.size ≠ g := by omega
  have C0 : Hid (Cur ((w.alloc (.cells #[.int .i64 0, .int .i64 0] 25)).alloc (.cells #[v, .int .i64 0, .int .u64 0] 48)) g 0) := Lib.hid (by rw [hge]; exact Cur.new hb _ _ _ _)
  have B0 := Lib.hid ((Box2.new w (.int .i64 0) (.int .i64 0) 25).alloc (.cells #[v, .int .i64 0, .int .u64 0] 48))
  have L0 := Lib.hid (((Below.refl w.heap.size w).alloc (Nat.le_refl _) (.cells #[.int .i64 0, .int .i64 0] 25)).alloc (by simp) (.cells #[v, .int .i64 0, .int .u64 0] 48))
  obtain ⟨av, nv, cv, hv, -, -⟩ := hb
  subst hv
  go_enter Try.func5, Try.ntmps5
  go_wp2_with fail
  rw [← hge]
  refine (numbered_any _ g 0 (by omega) C0.out).mono ?_
  rintro e w1 ⟨t, p, x, k, hx, rfl, hc, hg⟩
  have L1 := Lib.hid ((L0.out.grown hg (by simp; omega) (fun j hj => by injection hj; omega)).alloc (by have := (B0.out.grown' hg hlt).lt; omega) (.cells #[.int .i64 t, .int .i64 p] 25))
  have B1 := Lib.hid ((B0.out.grown' hg hlt).alloc (.cells #[.int .i64 t, .int .i64 p] 25))
  have D1 := Lib.hid (Box2.new w1 (.int .i64 t) (.int .i64 p) 25)
  have C1 := Lib.hid (hc.kept ((Below.refl w1.heap.size w1).alloc (Nat.le_refl _) (.cells #[.int .i64 t, .int .i64 p] 25)) hc.lt)
  have hgl := hc.lt
  have LB9 := Lib.hid (L0.out.grown hg (by simp; omega) (fun j hj => by injection hj; omega))
  have B9 := Lib.hid (B0.out.grown' hg hlt)
  have hz : w.heap.size < w1.heap.size := (B0.out.grown' hg hlt).lt
  have hz1 : ¬ (w.heap.size = w1.heap.size) := by omega
  have hz2 : ¬ (w1.heap.size = w.heap.size) := by omega
  clear hc hg C0 B0 L0
  clear L1 B1 D1 C1
  obtain ⟨e0, e1, k0, k1, hz4⟩ := B9.out
  clear hx
  go_wp2
  obtain ⟨r0, r1, -, -, -⟩ := B9.out.put (.int .i64 t) (.int .i64 p)
  exact bodyPost_ret (v := .tuple #[.agg #[.int .i64 t, .int .i64 p], .int .i64 x, .int .i64 k]) (by simp [results, Try.results5, go_sem, r0, r1]) rfl ⟨t, p, x, k, rfl, (LB9.out.setCell (p := ⟨w.heap.size, 0, none⟩) (Nat.le_refl _) (.int .i64 t)).setCell (p := ⟨w.heap.size, 1, none⟩) (Nat.le_refl _) (.int .i64 p)⟩
set_option maxRecDepth 100000 in
set_option maxHeartbeats 8000000 in
theorem DrawShortNext_any (w : World) (v : Value) (hb : BytesArg w v) :
    Calls Try.prog 27 #[v] w fun e w' => ∃ t p x : Int, e = .returned (.tuple #[.agg #[.int .i64 t, .int .i64 p], .int .i64 x]) ∧ Below w.heap.size w w' := by
  have HD := Lib.hid (DrawNextNumber_any (w.alloc (.cells #[.int .i64 0, .int .i64 0] 25)) v (hb.kept ((Below.refl w.heap.size w).alloc (Nat.le_refl _) _) (Nat.le_refl _)))
  have L0 := Lib.hid ((Below.refl w.heap.size w).alloc (Nat.le_refl _) (.cells #[.int .i64 0, .int .i64 0] 25))
  have B0 := Lib.hid (Box2.new w (.int .i64 0) (.int .i64 0) 25)
  obtain ⟨av, nv, cv, hv, -, -⟩ := hb
  subst hv
  go_enter Try.func27, Try.ntmps27
  go_wp2_with fail
  refine HD.out.mono ?_
  rintro e w1 ⟨t, p, x, rfl, hb1⟩
  have L1 := Lib.hid (L0.out.trans (hb1.mono (by simp)))
  obtain ⟨d0, d1, f0, f1, hz⟩ := B0.out.kept hb1 (by simp)
  clear hb1 B0 L0
  go_wp2
  exact bodyPost_ret (v := .tuple #[.agg #[.int .i64 t, .int .i64 p], .int .i64 x]) (by simp [results, Try.results27, go_sem, d0, d1]) rfl ⟨t, p, x, rfl, (L1.out.setCell (Nat.le_refl _) _).setCell (Nat.le_refl _) _⟩
set_option maxRecDepth 100000 in
set_option maxHeartbeats 8000000 in
theorem DrawShortAfter_any (w : World) (v : Value) (hb : BytesArg w v) :
    Calls Try.prog 31 #[v] w fun e w' => ∃ t p x k : Int, e = .returned (.tuple #[.agg #[.int .i64 t, .int .i64 p], .int .i64 x, .int .i64 k]) ∧ Below w.heap.size w w' := by
  have HD := Lib.hid (DrawNumberAfter_any (w.alloc (.cells #[.int .i64 0, .int .i64 0] 25)) v (hb.kept ((Below.refl w.heap.size w).alloc (Nat.le_refl _) _) (Nat.le_refl _)))
  have L0 := Lib.hid ((Below.refl w.heap.size w).alloc (Nat.le_refl _) (.cells #[.int .i64 0, .int .i64 0] 25))
  have B0 := Lib.hid (Box2.new w (.int .i64 0) (.int .i64 0) 25)
  obtain ⟨av, nv, cv, hv, -, -⟩ := hb
  subst hv
  go_enter Try.func31, Try.ntmps31
  go_wp2_with fail
  refine HD.out.mono ?_
  rintro e w1 ⟨t, p, x, k, rfl, hb1⟩
  have L1 := Lib.hid (L0.out.trans (hb1.mono (by simp)))
  obtain ⟨d0, d1, f0, f1, hz⟩ := B0.out.kept hb1 (by simp)
  clear hb1 B0 L0
  go_wp2
  exact bodyPost_ret (v := .tuple #[.agg #[.int .i64 t, .int .i64 p], .int .i64 x, .int .i64 k]) (by simp [results, Try.results31, go_sem, d0, d1]) rfl ⟨t, p, x, k, rfl, (L1.out.setCell (Nat.le_refl _) _).setCell (Nat.le_refl _) _⟩
end Go.Proofs.Ytebbafapcknllaa
