/-
  WHAT 'FnOddParts' IS DRAWN BY (gen_odd.py).
-/
import Derived.Test.YtebbafapcknllaaOdA
import Derived.Test.YtebbafapcknllaaDraw6
import Derived.Test.YtebbafapcknllaaYes
namespace Go.Proofs.Ytebbafapcknllaa
open Go.RowKit
set_option linter.unusedVariables false

theorem Cur.one {w : World} {v : Value} (h : BytesArg w v) (T' : TypeId) : Cur (w.alloc (.cells #[v, .int .i64 0, .int .u64 0] T')) w.heap.size 0 := by
  obtain ⟨a, m, cap, rfl, hm, hx⟩ := h
  have hB : Below w.heap.size w (w.alloc (.cells #[.slice a m cap, .int .i64 0, .int .u64 0] T')) := (Below.refl w.heap.size w).alloc (Nat.le_refl _) _
  refine ⟨⟨a, m, cap, 0, 0, hm, Nat.le_refl _, by go_simp, by go_simp, by go_simp, fun j hj => ?_⟩, by go_simp, by go_simp, by simp⟩
  obtain ⟨b, off, x, e, hbl, hc, h1, h2⟩ := hx j hj
  exact ⟨b, off, x, e, hbl, (hB.cell (p := ⟨b, off + j, none⟩) hbl).trans hc, h1, h2⟩
set_option maxRecDepth 100000 in
set_option maxHeartbeats 8000000 in
theorem DrawNextNumber_any (w : World) (v : Value) (hb : BytesArg w v) :
    Calls Try.prog 51 #[v] w fun e w' => ∃ t p x : Int, e = .returned (.tuple #[.agg #[.int .i64 t, .int .i64 p], .int .i64 x]) ∧ Below w.heap.size w w' := by
  obtain ⟨g, hge⟩ : ∃ g, g = w.heap.size + 1 := ⟨_, rfl⟩
  have hlt : w.heap.size ≠ g := by omega
  have C0 : Hid (Cur ((w.alloc (.cells #[.int .i64 0, .int .i64 0] 25)).alloc (.cells #[v, .int .i64 0, .int .u64 0] 48)) g 0) := Lib.hid (by rw [hge]; exact Cur.new hb _ _ _ _)
  have B0 := Lib.hid ((Box2.new w (.int .i64 0) (.int .i64 0) 25).alloc (.cells #[v, .int .i64 0, .int .u64 0] 48))
  have L0 := Lib.hid (((Below.refl w.heap.size w).alloc (Nat.le_refl _) (.cells #[.int .i64 0, .int .i64 0] 25)).alloc (by simp) (.cells #[v, .int .i64 0, .int .u64 0] 48))
  obtain ⟨av, nv, cv, hv, -, -⟩ := hb
  subst hv
  go_enter Try.func51, Try.ntmps51
  go_wp2_with fail
  rw [← hge]
  refine (numbered_any _ g 0 (by omega) C0.out).mono ?_
  rintro e w1 ⟨t, p, x, k, hx, rfl, hc, hg⟩
  have L1 := Lib.hid ((L0.out.grown hg (by simp; omega) (fun j hj => by injection hj; omega)).alloc (by have := (B0.out.grown' hg hlt).lt; omega) (.cells #[.int .i64 t, .int .i64 p] 25))
  have B1 := Lib.hid ((B0.out.grown' hg hlt).alloc (.cells #[.int .i64 t, .int .i64 p] 25))
  have D1 := Lib.hid (Box2.new w1 (.int .i64 t) (.int .i64 p) 25)
  have C1 := Lib.hid (hc.kept ((Below.refl w1.heap.size w1).alloc (Nat.le_refl _) (.cells #[.int .i64 t, .int .i64 p] 25)) hc.lt)
  have hgl := hc.lt
  have LB9 := Lib.hid (L0.out.grown hg (by simp; omega) (fun j hj => by injection hj; omega))
  have B9 := Lib.hid (B0.out.grown' hg hlt)
  have hz : w.heap.size < w1.heap.size := (B0.out.grown' hg hlt).lt
  have hz1 : ¬ (w.heap.size = w1.heap.size) := by omega
  have hz2 : ¬ (w1.heap.size = w.heap.size) := by omega
  clear hc hg C0 B0 L0
  obtain ⟨e0, e1, k0, k1, hz4⟩ := B9.out
  clear hx
  go_wp2
  obtain ⟨r0, r1, -, -, -⟩ := (B9.out.put (.int .i64 t) (.int .i64 p)).alloc (.cells #[.int .i64 t, .int .i64 p] 25)
  exact bodyPost_ret (v := .tuple #[.agg #[.int .i64 t, .int .i64 p], .int .i64 x]) (by simp [results, Try.results51, go_sem, r0, r1]) rfl ⟨t, p, x, rfl, ((LB9.out.setCell (p := ⟨w.heap.size, 0, none⟩) (Nat.le_refl _) (.int .i64 t)).setCell (p := ⟨w.heap.size, 1, none⟩) (Nat.le_refl _) (.int .i64 p)).alloc (by simp; omega) _⟩
end Go.Proofs.Ytebbafapcknllaa
