/-
  WHAT 'FnOddParts' IS DRAWN BY (gen_odd.py).
-/
import Derived.Test.YtmocbkpfoddffaaDoorOdA
import Derived.Test.YtmocbkpfoddffaaDoorDraw6
import Derived.Test.YtmocbkpfoddffaaDoorTextM
import Derived.Test.YtmocbkpfoddffaaDoorYes
namespace Go.Proofs.YtmocbkpfoddffaaDoor
open Go.RowKit
set_option linter.unusedVariables false

theorem Cur.one {w : World} {v : Value} (h : BytesArg w v) (T' : TypeId) : Cur (w.alloc (.cells #[v, .int .i64 0, .int .u64 0] T')) w.heap.size 0 := by
  obtain ⟨a, m, cap, rfl, hm, hx⟩ := h
  have hB : Below w.heap.size w (w.alloc (.cells #[.slice a m cap, .int .i64 0, .int .u64 0] T')) := (Below.refl w.heap.size w).alloc (Nat.le_refl _) _
  refine ⟨⟨a, m, cap, 0, 0, hm, Nat.le_refl _, by go_simp, by go_simp, by go_simp, fun j hj => ?_⟩, by go_simp, by go_simp, by simp⟩
  obtain ⟨b, off, x, e, hbl, hc, h1, h2⟩ := hx j hj
  exact ⟨b, off, x, e, hbl, (hB.cell (p := ⟨b, off + j, none⟩) hbl).trans hc, h1, h2⟩
set_option maxRecDepth 100000 in
set_option maxHeartbeats 8000000 in
theorem DrawOddPart_any (w : World) (v : Value) (hb : BytesArg w v) :
    Calls Tryd.prog 5 #[v] w fun e w' => ∃ x : Int, e = .returned (.int .i64 x) ∧ Below w.heap.size w w' := by
  have C0 := Lib.hid (Cur.one hb 49)
  have L0 := Lib.hid ((Below.refl w.heap.size w).alloc (Nat.le_refl _) (.cells #[v, .int .i64 0, .int .u64 0] 49))
  obtain ⟨av, nv, cv, hv, -, -⟩ := hb
  subst hv
  go_enter Tryd.func5, Tryd.ntmps5
  go_wp2_with fail
  refine (number_any _ _ 0 (by omega) C0.out).mono ?_
  rintro e w1 ⟨x, -, rfl, hc, hg⟩
  have L1 := L0.out.grown hg (by simp) (fun j hj => by injection hj; omega)
  clear hc hg C0 L0
  go_wp2_with fail
  go_ret
  exact ⟨x, rfl, L1⟩
set_option maxRecDepth 100000 in
set_option maxHeartbeats 8000000 in
theorem DrawNextNumber_any (w : World) (v : Value) (hb : BytesArg w v) :
    Calls Tryd.prog 34 #[v] w fun e w' => ∃ t p x : Int, e = .returned (.tuple #[.agg #[.int .i64 t, .int .i64 p], .int .i64 x]) ∧ Below w.heap.size w w' := by
  obtain ⟨g, hge⟩ : ∃ g, g = w.heap.size + 1 := ⟨_, rfl⟩
  have hlt : w.heap.size ≠ g := by omega
  have C0 : Hid (Cur ((w.alloc (.cells #[.int .i64 0, .int .i64 0] 28)).alloc (.cells #[v, .int .i64 0, .int .u64 0] 49)) g 0) := Lib.hid (by rw [hge]; exact Cur.new hb _ _ _ _)
  have B0 := Lib.hid ((Box2.new w (.int .i64 0) (.int .i64 0) 28).alloc (.cells #[v, .int .i64 0, .int .u64 0] 49))
  have L0 := Lib.hid (((Below.refl w.heap.size w).alloc (Nat.le_refl _) (.cells #[.int .i64 0, .int .i64 0] 28)).alloc (by simp) (.cells #[v, .int .i64 0, .int .u64 0] 49))
  obtain ⟨av, nv, cv, hv, -, -⟩ := hb
  subst hv
  go_enter Tryd.func34, Tryd.ntmps34
  go_wp2_with fail
  rw [← hge]
  refine (numbered_any _ g 0 (by omega) C0.out).mono ?_
  rintro e w1 ⟨t, p, x, k, hx, rfl, hc, hg⟩
  have L1 := Lib.hid ((L0.out.grown hg (by simp; omega) (fun j hj => by injection hj; omega)).alloc (by have := (B0.out.grown' hg hlt).lt; omega) (.cells #[.int .i64 t, .int .i64 p] 28))
  have B1 := Lib.hid ((B0.out.grown' hg hlt).alloc (.cells #[.int .i64 t, .int .i64 p] 28))
  have D1 := Lib.hid (Box2.new w1 (.int .i64 t) (.int .i64 p) 28)
  have C1 := Lib.hid (hc.kept ((Below.refl w1.heap.size w1).alloc (Nat.le_refl _) (.cells #[.int .i64 t, .int .i64 p] 28)) hc.lt)
  have hgl := hc.lt
  have LB9 := Lib.hid (L0.out.grown hg (by simp; omega) (fun j hj => by injection hj; omega))
  have B9 := Lib.hid (B0.out.grown' hg hlt)
  have hz : w.heap.size < w1.heap.size := (B0.out.grown' hg hlt).lt
  have hz1 : ¬ (w.heap.size = w1.heap.size) := by omega
  have hz2 : ¬ (w1.heap.size = w.heap.size) := by omega
  clear hc hg C0 B0 L0
  obtain ⟨e0, e1, k0, k1, hz4⟩ := B9.out
  clear hx
  go_wp2
  obtain ⟨r0, r1, -, -, -⟩ := (B9.out.put (.int .i64 t) (.int .i64 p)).alloc (.cells #[.int .i64 t, .int .i64 p] 28)
  exact bodyPost_ret (v := .tuple #[.agg #[.int .i64 t, .int .i64 p], .int .i64 x]) (by simp [results, Tryd.results34, go_sem, r0, r1]) rfl ⟨t, p, x, rfl, ((LB9.out.setCell (p := ⟨w.heap.size, 0, none⟩) (Nat.le_refl _) (.int .i64 t)).setCell (p := ⟨w.heap.size, 1, none⟩) (Nat.le_refl _) (.int .i64 p)).alloc (by simp; omega) _⟩
set_option maxRecDepth 100000 in
set_option maxHeartbeats 8000000 in
theorem DrawIsMap_any (w : World) (v : Value) (hb : BytesArg w v) :
    Calls Tryd.prog 39 #[v] w fun e w' => ∃ t p : Int, e = .returned (.agg #[.int .i64 t, .int .i64 p]) ∧ Below w.heap.size w w' := by
  obtain ⟨g, hge⟩ : ∃ g, g = w.heap.size + 1 := ⟨_, rfl⟩
  have hlt : w.heap.size ≠ g := by omega
  have C0 : Hid (Cur ((w.alloc (.cells #[.int .i64 0, .int .i64 0] 28)).alloc (.cells #[v, .int .i64 0, .int .u64 0] 49)) g 0) := Lib.hid (by rw [hge]; exact Cur.new hb _ _ _ _)
  have B0 := Lib.hid ((Box2.new w (.int .i64 0) (.int .i64 0) 28).alloc (.cells #[v, .int .i64 0, .int .u64 0] 49))
  have L0 := Lib.hid (((Below.refl w.heap.size w).alloc (Nat.le_refl _) (.cells #[.int .i64 0, .int .i64 0] 28)).alloc (by simp) (.cells #[v, .int .i64 0, .int .u64 0] 49))
  obtain ⟨av, nv, cv, hv, -, -⟩ := hb
  subst hv
  go_enter Tryd.func39, Tryd.ntmps39
  go_wp2_with fail
  rw [← hge]
  refine (numbered_any _ g 0 (by omega) C0.out).mono ?_
  rintro e w1 ⟨t, p, x, k, hx, rfl, hc, hg⟩
  have L1 := Lib.hid ((L0.out.grown hg (by simp; omega) (fun j hj => by injection hj; omega)).alloc (by have := (B0.out.grown' hg hlt).lt; omega) (.cells #[.int .i64 t, .int .i64 p] 28))
  have B1 := Lib.hid ((B0.out.grown' hg hlt).alloc (.cells #[.int .i64 t, .int .i64 p] 28))
  have D1 := Lib.hid (Box2.new w1 (.int .i64 t) (.int .i64 p) 28)
  have C1 := Lib.hid (hc.kept ((Below.refl w1.heap.size w1).alloc (Nat.le_refl _) (.cells #[.int .i64 t, .int .i64 p] 28)) hc.lt)
  have hgl := hc.lt
  have LB9 := Lib.hid (L0.out.grown hg (by simp; omega) (fun j hj => by injection hj; omega))
  have B9 := Lib.hid (B0.out.grown' hg hlt)
  have hz : w.heap.size < w1.heap.size := (B0.out.grown' hg hlt).lt
  have hz1 : ¬ (w.heap.size = w1.heap.size) := by omega
  have hz2 : ¬ (w1.heap.size = w.heap.size) := by omega
  clear hc hg C0 B0 L0
  obtain ⟨e0, e1, k0, k1, hz4⟩ := B9.out
  clear hx
  go_wp2
  obtain ⟨r0, r1, -, -, -⟩ := (B9.out.put (.int .i64 t) (.int .i64 p)).alloc (.cells #[.int .i64 t, .int .i64 p] 28)
  exact bodyPost_ret (v := .agg #[.int .i64 t, .int .i64 p]) (by simp [results, Tryd.results39, go_sem, r0, r1]) rfl ⟨t, p, rfl, ((LB9.out.setCell (p := ⟨w.heap.size, 0, none⟩) (Nat.le_refl _) (.int .i64 t)).setCell (p := ⟨w.heap.size, 1, none⟩) (Nat.le_refl _) (.int .i64 p)).alloc (by simp; omega) _⟩
set_option maxRecDepth 100000 in
set_option maxHeartbeats 8000000 in
theorem DrawOddNext_any (w : World) (v : Value) (hb : BytesArg w v) :
    Calls Tryd.prog 8 #[v] w fun e w' => ∃ t p x : Int, e = .returned (.tuple #[.agg #[.int .i64 t, .int .i64 p], .int .i64 x]) ∧ Below w.heap.size w w' := by
  have HD := Lib.hid (DrawNextNumber_any (w.alloc (.cells #[.int .i64 0, .int .i64 0] 28)) v (hb.kept ((Below.refl w.heap.size w).alloc (Nat.le_refl _) _) (Nat.le_refl _)))
  have L0 := Lib.hid ((Below.refl w.heap.size w).alloc (Nat.le_refl _) (.cells #[.int .i64 0, .int .i64 0] 28))
  have B0 := Lib.hid (Box2.new w (.int .i64 0) (.int .i64 0) 28)
  obtain ⟨av, nv, cv, hv, -, -⟩ := hb
  subst hv
  go_enter Tryd.func8, Tryd.ntmps8
  go_wp2_with fail
  refine HD.out.mono ?_
  rintro e w1 ⟨t, p, x, rfl, hb1⟩
  have L1 := Lib.hid (L0.out.trans (hb1.mono (by simp)))
  obtain ⟨d0, d1, f0, f1, hz⟩ := B0.out.kept hb1 (by simp)
  clear hb1 B0 L0
  go_wp2
  exact bodyPost_ret (v := .tuple #[.agg #[.int .i64 t, .int .i64 p], .int .i64 x]) (by simp [results, Tryd.results8, go_sem, d0, d1]) rfl ⟨t, p, x, rfl, (L1.out.setCell (Nat.le_refl _) _).setCell (Nat.le_refl _) _⟩
set_option maxRecDepth 100000 in
set_option maxHeartbeats 8000000 in
theorem DrawFirstBelow_any (w : World) (v : Value) (hb : BytesArg w v) :
    Calls Tryd.prog 11 #[v] w fun e w' => ∃ t p x : Int, e = .returned (.tuple #[.agg #[.int .i64 t, .int .i64 p], .int .i64 x]) ∧ Below w.heap.size w w' := by
  have HD := Lib.hid (DrawNextNumber_any (w.alloc (.cells #[.int .i64 0, .int .i64 0] 28)) v (hb.kept ((Below.refl w.heap.size w).alloc (Nat.le_refl _) _) (Nat.le_refl _)))
  have L0 := Lib.hid ((Below.refl w.heap.size w).alloc (Nat.le_refl _) (.cells #[.int .i64 0, .int .i64 0] 28))
  have B0 := Lib.hid (Box2.new w (.int .i64 0) (.int .i64 0) 28)
  obtain ⟨av, nv, cv, hv, -, -⟩ := hb
  subst hv
  go_enter Tryd.func11, Tryd.ntmps11
  go_wp2_with fail
  refine HD.out.mono ?_
  rintro e w1 ⟨t, p, x, rfl, hb1⟩
  have L1 := Lib.hid (L0.out.trans (hb1.mono (by simp)))
  obtain ⟨d0, d1, f0, f1, hz⟩ := B0.out.kept hb1 (by simp)
  clear hb1 B0 L0
  go_wp2
  exact bodyPost_ret (v := .tuple #[.agg #[.int .i64 t, .int .i64 p], .int .i64 x]) (by simp [results, Tryd.results11, go_sem, d0, d1]) rfl ⟨t, p, x, rfl, (L1.out.setCell (Nat.le_refl _) _).setCell (Nat.le_refl _) _⟩
set_option maxRecDepth 100000 in
set_option maxHeartbeats 8000000 in
theorem DrawMapText_any (w : World) (v : Value) (hb : BytesArg w v) :
    Calls Tryd.prog 14 #[v] w fun e w' => ∃ t p : Int, e = .returned (.agg #[.int .i64 t, .int .i64 p]) ∧ Below w.heap.size w w' := by
  have HD := Lib.hid (DrawIsMap_any (w.alloc (.cells #[.int .i64 0, .int .i64 0] 28)) v (hb.kept ((Below.refl w.heap.size w).alloc (Nat.le_refl _) _) (Nat.le_refl _)))
  have L0 := Lib.hid ((Below.refl w.heap.size w).alloc (Nat.le_refl _) (.cells #[.int .i64 0, .int .i64 0] 28))
  have B0 := Lib.hid (Box2.new w (.int .i64 0) (.int .i64 0) 28)
  obtain ⟨av, nv, cv, hv, -, -⟩ := hb
  subst hv
  go_enter Tryd.func14, Tryd.ntmps14
  go_wp2_with fail
  refine HD.out.mono ?_
  rintro e w1 ⟨t, p, rfl, hb1⟩
  have L1 := Lib.hid (L0.out.trans (hb1.mono (by simp)))
  obtain ⟨d0, d1, f0, f1, hz⟩ := B0.out.kept hb1 (by simp)
  clear hb1 B0 L0
  go_wp2
  exact bodyPost_ret (v := .agg #[.int .i64 t, .int .i64 p]) (by simp [results, Tryd.results14, go_sem, d0, d1]) rfl ⟨t, p, rfl, (L1.out.setCell (Nat.le_refl _) _).setCell (Nat.le_refl _) _⟩
set_option maxRecDepth 100000 in
set_option maxHeartbeats 8000000 in
theorem DrawStepsTo_any (w : World) (v : Value) (hb : BytesArg w v) :
    Calls Tryd.prog 22 #[v] w fun e w' => ∃ t p x q : Int, e = .returned (.tuple #[.agg #[.int .i64 t, .int .i64 p], .int .i64 x, .int .i64 q]) ∧ Below w.heap.size w w' := by
  obtain ⟨g, hge⟩ : ∃ g, g = w.heap.size + 1 := ⟨_, rfl⟩
  have hlt : w.heap.size ≠ g := by omega
  have C0 : Hid (Cur ((w.alloc (.cells #[.int .i64 0, .int .i64 0] 28)).alloc (.cells #[v, .int .i64 0, .int .u64 0] 49)) g 0) := Lib.hid (by rw [hge]; exact Cur.new hb _ _ _ _)
  have B0 := Lib.hid ((Box2.new w (.int .i64 0) (.int .i64 0) 28).alloc (.cells #[v, .int .i64 0, .int .u64 0] 49))
  have L0 := Lib.hid (((Below.refl w.heap.size w).alloc (Nat.le_refl _) (.cells #[.int .i64 0, .int .i64 0] 28)).alloc (by simp) (.cells #[v, .int .i64 0, .int .u64 0] 49))
  obtain ⟨av, nv, cv, hv, -, -⟩ := hb
  subst hv
  go_enter Tryd.func22, Tryd.ntmps22
  go_wp2_with fail
  rw [← hge]
  refine (numbered_any _ g 0 (by omega) C0.out).mono ?_
  rintro e w1 ⟨t, p, x, k, hx, rfl, hc, hg⟩
  have L1 := Lib.hid ((L0.out.grown hg (by simp; omega) (fun j hj => by injection hj; omega)).alloc (by have := (B0.out.grown' hg hlt).lt; omega) (.cells #[.int .i64 t, .int .i64 p] 28))
  have B1 := Lib.hid ((B0.out.grown' hg hlt).alloc (.cells #[.int .i64 t, .int .i64 p] 28))
  have D1 := Lib.hid (Box2.new w1 (.int .i64 t) (.int .i64 p) 28)
  have C1 := Lib.hid (hc.kept ((Below.refl w1.heap.size w1).alloc (Nat.le_refl _) (.cells #[.int .i64 t, .int .i64 p] 28)) hc.lt)
  have hgl := hc.lt
  have LB9 := Lib.hid (L0.out.grown hg (by simp; omega) (fun j hj => by injection hj; omega))
  have B9 := Lib.hid (B0.out.grown' hg hlt)
  have hz : w.heap.size < w1.heap.size := (B0.out.grown' hg hlt).lt
  have hz1 : ¬ (w.heap.size = w1.heap.size) := by omega
  have hz2 : ¬ (w1.heap.size = w.heap.size) := by omega
  clear hc hg C0 B0 L0
  clear hx B9 LB9
  obtain ⟨d0, d1, f0, f1, hz3⟩ := D1.out
  go_wp2_with fail
  generalize hW : w1.alloc (.cells #[.int .i64 t, .int .i64 p] 28) = W1 at L1 B1 C1 D1 hz3 ⊢
  clear hW
  refine (mpAsked_any _ _ _ _ _).mono ?_
  rintro e w2 ⟨rfl, hb⟩
  clear d0 d1 f0 f1 hz3
  have L2 := Lib.hid (L1.out.trans (hb.mono L1.out.size))
  have B2 := Lib.hid (B1.out.kept hb B1.out.lt)
  have D2 := Lib.hid (D1.out.kept hb D1.out.lt)
  have C2 := Lib.hid (C1.out.kept hb C1.out.lt)
  clear hb L1 B1 D1 C1
  cases hq : askB t p x k
  case false =>
    clear hq
    obtain ⟨d0, d1, f0, f1, hz3⟩ := D2.out
    go_wp2_with fail
    skip
    go_region_with (go_at_call 51; rw [← hge]; (first | refine (among_arr _ g _ _ _ 6 rfl (by decide) (by decide) (by kernel_rfl) (by omega) C2.out).mono ?_ | refine (among_drew _ g _ _ _ 6 rfl (by decide) (by decide) (by kernel_rfl) (by omega) C2.out).mono ?_); rintro e w9 ⟨q, hq, rfl, hc, hg⟩; have L9 := Lib.hid (L2.out.grown hg (by have := B2.out.lt; omega) (fun j hj => by injection hj; omega)); obtain ⟨d0, d1, f0, f1, hz5⟩ := Box2.grown' D2.out hg (by omega); obtain ⟨e0, e1, k0, k1, hz6⟩ := Box2.grown' B2.out hg hlt)
    all_goals
      go_wp2_with fail
      have L10 := (L9.out.setCell (p := ⟨w.heap.size, 0, none⟩) (Nat.le_refl _) (.int .i64 t)).setCell (p := ⟨w.heap.size, 1, none⟩) (Nat.le_refl _) (.int .i64 p)
      first
            | exact bodyPost_ret (v := .tuple #[.agg #[.int .i64 t, .int .i64 p], .int .i64 x, .int .i64 q]) (by simp [results, Tryd.results22, go_sem, e0, e1]) rfl ⟨t, p, x, q, rfl, L10⟩
            | exact bodyPost_ret (v := .tuple #[.agg #[.int .i64 t, .int .i64 p], .int .i64 x, .int .i64 q]) (by simp [results, Tryd.results22, go_sem, e0, e1]) rfl ⟨t, p, x, q, rfl, L10.drew⟩
  case true =>
    go_wp2_with fail
    rw [← hge]
    refine (one_any _ g _ 3 (by omega) (by omega) (by omega) C2.out).mono ?_
    rintro e w3 ⟨b, rfl, hc, hg⟩
    have L3 := Lib.hid (L2.out.grown hg (by have := B2.out.lt; omega) (fun j hj => by injection hj; omega))
    have B3 := Lib.hid (B2.out.grown' hg hlt)
    have D3 := Lib.hid (D2.out.grown' hg (by omega))
    have C3 := Lib.hid hc
    clear hc hg L2 B2 D2 C2
    cases b
    case true =>
      clear hq
      obtain ⟨d0, d1, f0, f1, hz3⟩ := D3.out
      go_wp2_with fail
      skip
      go_region_with (go_at_call 51; rw [← hge]; (first | refine (among_arr _ g _ _ _ 6 rfl (by decide) (by decide) (by kernel_rfl) (by omega) C3.out).mono ?_ | refine (among_drew _ g _ _ _ 6 rfl (by decide) (by decide) (by kernel_rfl) (by omega) C3.out).mono ?_); rintro e w9 ⟨q, hq, rfl, hc, hg⟩; have L9 := Lib.hid (L3.out.grown hg (by have := B3.out.lt; omega) (fun j hj => by injection hj; omega)); obtain ⟨d0, d1, f0, f1, hz5⟩ := Box2.grown' D3.out hg (by omega); obtain ⟨e0, e1, k0, k1, hz6⟩ := Box2.grown' B3.out hg hlt)
      all_goals
        go_wp2_with fail
        have L10 := (L9.out.setCell (p := ⟨w.heap.size, 0, none⟩) (Nat.le_refl _) (.int .i64 t)).setCell (p := ⟨w.heap.size, 1, none⟩) (Nat.le_refl _) (.int .i64 p)
        first
              | exact bodyPost_ret (v := .tuple #[.agg #[.int .i64 t, .int .i64 p], .int .i64 x, .int .i64 q]) (by simp [results, Tryd.results22, go_sem, e0, e1]) rfl ⟨t, p, x, q, rfl, L10⟩
              | exact bodyPost_ret (v := .tuple #[.agg #[.int .i64 t, .int .i64 p], .int .i64 x, .int .i64 q]) (by simp [results, Tryd.results22, go_sem, e0, e1]) rfl ⟨t, p, x, q, rfl, L10.drew⟩
    case false =>
      obtain ⟨hgd, hnm, hk0, hk1⟩ := askB_iff.1 hq
      obtain ⟨K, rfl⟩ := Int.eq_ofNat_of_zero_le hk0
      clear hq
      obtain ⟨d0, d1, f0, f1, hz3⟩ := D3.out
      go_wp2_with fail
      cases hl : allB (nx t p) x (K + 1)
      case false =>
        refine (mpPath_no t p x K _ hgd hnm (by omega) hl).mono ?_
        rintro e w4 ⟨rfl, hb⟩
        clear hgd hnm hl d0 d1 f0 f1 hz3
        have L4 := Lib.hid (L3.out.trans (hb.mono L3.out.size))
        have B4 := Lib.hid (B3.out.kept hb B3.out.lt)
        have D4 := Lib.hid (D3.out.kept hb D3.out.lt)
        have C4 := Lib.hid (C3.out.kept hb C3.out.lt)
        clear hb L3 B3 D3 C3
        obtain ⟨d0, d1, f0, f1, hz3⟩ := D4.out
        go_wp2_with fail
        skip
        go_region_with (go_at_call 51; rw [← hge]; (first | refine (among_arr _ g _ _ _ 6 rfl (by decide) (by decide) (by kernel_rfl) (by omega) C4.out).mono ?_ | refine (among_drew _ g _ _ _ 6 rfl (by decide) (by decide) (by kernel_rfl) (by omega) C4.out).mono ?_); rintro e w9 ⟨q, hq, rfl, hc, hg⟩; have L9 := Lib.hid (L4.out.grown hg (by have := B4.out.lt; omega) (fun j hj => by injection hj; omega)); obtain ⟨d0, d1, f0, f1, hz5⟩ := Box2.grown' D4.out hg (by omega); obtain ⟨e0, e1, k0, k1, hz6⟩ := Box2.grown' B4.out hg hlt)
        all_goals
          go_wp2_with fail
          have L10 := (L9.out.setCell (p := ⟨w.heap.size, 0, none⟩) (Nat.le_refl _) (.int .i64 t)).setCell (p := ⟨w.heap.size, 1, none⟩) (Nat.le_refl _) (.int .i64 p)
          first
                | exact bodyPost_ret (v := .tuple #[.agg #[.int .i64 t, .int .i64 p], .int .i64 x, .int .i64 q]) (by simp [results, Tryd.results22, go_sem, e0, e1]) rfl ⟨t, p, x, q, rfl, L10⟩
                | exact bodyPost_ret (v := .tuple #[.agg #[.int .i64 t, .int .i64 p], .int .i64 x, .int .i64 q]) (by simp [results, Tryd.results22, go_sem, e0, e1]) rfl ⟨t, p, x, q, rfl, L10.drew⟩
      case true =>
        refine (mpPath_yes t p x K _ hgd hnm (by omega) hl).mono ?_
        rintro e w4 ⟨g5, cap, rfl, hp, hb⟩
        have hp3 := hp.lt
        have hb3 := B3.out.lt
        have hn1 : ¬ (g5 = w.heap.size) := by omega
        have hn2 : ¬ (w.heap.size = g5) := by omega
        clear hp3 hb3
        clear hgd hnm hl d0 d1 f0 f1 hz3
        have L4 := Lib.hid (L3.out.trans (hb.mono L3.out.size))
        have B4 := Lib.hid (B3.out.kept hb B3.out.lt)
        have D4 := Lib.hid (D3.out.kept hb D3.out.lt)
        have C4 := Lib.hid (C3.out.kept hb C3.out.lt)
        clear hb L3 B3 D3 C3
        obtain ⟨d0, d1, f0, f1, hz3⟩ := D4.out
        obtain ⟨e0, e1, k0, k1, hz4⟩ := B4.out
        have hcell := hp.cell (j := K) (Nat.le_refl K)
        clear hp C4
        generalize itr (nx t p) K x = q at hcell
        go_wp2_with fail
        go_region_with fail
        all_goals
          go_wp2_with fail
          have L10 := (L4.out.setCell (p := ⟨w.heap.size, 0, none⟩) (Nat.le_refl _) (.int .i64 t)).setCell (p := ⟨w.heap.size, 1, none⟩) (Nat.le_refl _) (.int .i64 p)
          first
            | exact bodyPost_ret (v := .tuple #[.agg #[.int .i64 t, .int .i64 p], .int .i64 x, .int .i64 q]) (by simp [results, Tryd.results22, go_sem, e0, e1]) rfl ⟨t, p, x, q, rfl, L10⟩
            | exact bodyPost_ret (v := .tuple #[.agg #[.int .i64 t, .int .i64 p], .int .i64 x, .int .i64 q]) (by simp [results, Tryd.results22, go_sem, e0, e1]) rfl ⟨t, p, x, q, rfl, L10.drew⟩

end Go.Proofs.YtmocbkpfoddffaaDoor
