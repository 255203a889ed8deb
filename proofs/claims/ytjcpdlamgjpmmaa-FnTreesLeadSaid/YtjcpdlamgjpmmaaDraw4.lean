/-
  THE FUNCTIONS THAT DRAW ARGUMENTS: at whatever bytes they hand back a map and integers.
-/
import Derived.Test.YtjcpdlamgjpmmaaDraw
namespace Go.Proofs.Ytjcpdlamgjpmmaa
open Go.RowKit
set_option linter.unusedVariables false

set_option maxRecDepth 100000 in
set_option maxHeartbeats 4000000 in
theorem DrawLevelOf_any (w : World) (v : Value) (hb : BytesArg w v) :
    Calls Try.prog 30 #[v] w fun e w' => ∃ t p r k : Int, e = .returned (.tuple #[.agg #[.int .i64 t, .int .i64 p], .int .i64 r, .int .i64 k]) ∧ Below w.heap.size w w' := by
  obtain ⟨g, hge⟩ : ∃ g, g = w.heap.size + 1 := ⟨_, rfl⟩
  have hlt : w.heap.size ≠ g := by omega
  have C0 : Hid (Cur ((w.alloc (.cells #[.int .i64 0, .int .i64 0] 25)).alloc (.cells #[v, .int .i64 0, .int .u64 0] 62)) g 0) := Lib.hid (by rw [hge]; exact Cur.new hb _ _ _ _)
  have B0 := Lib.hid ((Box2.new w (.int .i64 0) (.int .i64 0) 25).alloc (.cells #[v, .int .i64 0, .int .u64 0] 62))
  have L0 := Lib.hid (((Below.refl w.heap.size w).alloc (Nat.le_refl _) (.cells #[.int .i64 0, .int .i64 0] 25)).alloc (by simp) (.cells #[v, .int .i64 0, .int .u64 0] 62))
  obtain ⟨av, nv, cv, hv, -, -⟩ := hb
  subst hv
  go_enter Try.func30, Try.ntmps30
  go_wp2_with fail
  rw [← hge]
  refine (rooted_any _ g 0 (by omega) C0.out).mono ?_
  rintro e w1 ⟨t, p, r, k, _, _, rfl, hc, hg⟩
  have L1 := Lib.hid (L0.out.grown hg (by simp; omega) (fun j hj => by injection hj; omega))
  obtain ⟨d0, d1, f0, f1, hz⟩ := B0.out.grown' hg hlt
  clear hc hg C0 B0 L0
  go_wp2
  exact bodyPost_ret (v := .tuple #[.agg #[.int .i64 t, .int .i64 p], .int .i64 r, .int .i64 k]) (by simp [results, Try.results30, go_sem, d0, d1]) rfl ⟨t, p, r, k, rfl, (L1.out.setCell (Nat.le_refl _) _).setCell (Nat.le_refl _) _⟩
set_option maxRecDepth 100000 in
set_option maxHeartbeats 4000000 in
theorem DrawNumbersBefore_any (w : World) (v : Value) (hb : BytesArg w v) :
    Calls Try.prog 44 #[v] w fun e w' => ∃ t p x : Int, e = .returned (.tuple #[.agg #[.int .i64 t, .int .i64 p], .int .i64 x]) ∧ Below w.heap.size w w' := by
  obtain ⟨g, hge⟩ : ∃ g, g = w.heap.size + 1 := ⟨_, rfl⟩
  have hlt : w.heap.size ≠ g := by omega
  have C0 : Hid (Cur ((w.alloc (.cells #[.int .i64 0, .int .i64 0] 25)).alloc (.cells #[v, .int .i64 0, .int .u64 0] 62)) g 0) := Lib.hid (by rw [hge]; exact Cur.new hb _ _ _ _)
  have B0 := Lib.hid ((Box2.new w (.int .i64 0) (.int .i64 0) 25).alloc (.cells #[v, .int .i64 0, .int .u64 0] 62))
  have L0 := Lib.hid (((Below.refl w.heap.size w).alloc (Nat.le_refl _) (.cells #[.int .i64 0, .int .i64 0] 25)).alloc (by simp) (.cells #[v, .int .i64 0, .int .u64 0] 62))
  obtain ⟨av, nv, cv, hv, -, -⟩ := hb
  subst hv
  go_enter Try.func44, Try.ntmps44
  go_wp2_with fail
  rw [← hge]
  refine (mapped_any _ g 0 (by omega) C0.out).mono ?_
  rintro e w1 ⟨t, p, rfl, hc, hg⟩
  have L1 := Lib.hid (L0.out.grown hg (by simp; omega) (fun j hj => by injection hj; omega))
  have B1 := Lib.hid (B0.out.grown' hg hlt)
  have C1 := Lib.hid hc
  clear hc hg C0 B0 L0
  go_wp2_with fail
  rw [← hge]
  refine (number_any _ g _ (by omega) C1.out).mono ?_
  rintro e w2 ⟨x, -, rfl, hc, hg⟩
  have L2 := Lib.hid (L1.out.grown hg (by have := B1.out.lt; omega) (fun j hj => by injection hj; omega))
  obtain ⟨d0, d1, f0, f1, hz⟩ := B1.out.grown' hg hlt
  clear hc hg C1 B1 L1
  go_wp2
  exact bodyPost_ret (v := .tuple #[.agg #[.int .i64 t, .int .i64 p], .int .i64 x]) (by simp [results, Try.results44, go_sem, d0, d1]) rfl ⟨t, p, x, rfl, (L2.out.setCell (Nat.le_refl _) _).setCell (Nat.le_refl _) _⟩
end Go.Proofs.Ytjcpdlamgjpmmaa
