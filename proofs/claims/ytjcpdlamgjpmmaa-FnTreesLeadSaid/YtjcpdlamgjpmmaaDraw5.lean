/-
  THE FUNCTIONS THAT DRAW ARGUMENTS OF THE LAW ON TREES: at whatever bytes they hand back maps and integers.
-/
import Derived.Test.YtjcpdlamgjpmmaaDraw4
import Derived.Test.YtjcpdlamgjpmmaaLevK
namespace Go.Proofs.Ytjcpdlamgjpmmaa
open Go.RowKit
set_option linter.unusedVariables false

set_option maxRecDepth 100000 in
set_option maxHeartbeats 8000000 in
theorem DrawBranchOf_any (w : World) (v : Value) (hb : BytesArg w v) :
    Calls Try.prog 5 #[v] w fun e w' => ∃ t p r k : Int, e = .returned (.tuple #[.agg #[.int .i64 t, .int .i64 p], .int .i64 r, .int .i64 k]) ∧ Below w.heap.size w w' := by
  have HD := Lib.hid (DrawLevelOf_any (w.alloc (.cells #[.int .i64 0, .int .i64 0] 25)) v (hb.kept ((Below.refl w.heap.size w).alloc (Nat.le_refl _) _) (Nat.le_refl _)))
  obtain ⟨av, nv, cv, hv, -, -⟩ := hb
  subst hv
  have B0 := Lib.hid (Box2.new w (.int .i64 0) (.int .i64 0) 25)
  go_enter Try.func5, Try.ntmps5
  go_wp2_with fail
  refine HD.out.mono ?_
  rintro e w1 ⟨t, p, r, k, rfl, hb1⟩
  have L1 := Lib.hid (((Below.refl w.heap.size w).alloc (Nat.le_refl _) (.cells #[.int .i64 0, .int .i64 0] 25)).trans (hb1.mono (by simp)))
  obtain ⟨d0, d1, f0, f1, hz⟩ := B0.out.kept hb1 (by simp)
  clear hb1 HD B0
  go_wp2
  exact bodyPost_ret (v := .tuple #[.agg #[.int .i64 t, .int .i64 p], .int .i64 r, .int .i64 k]) (by simp [results, Try.results5, go_sem, d0, d1]) rfl ⟨t, p, r, k, rfl, (L1.out.setCell (Nat.le_refl _) _).setCell (Nat.le_refl _) _⟩
set_option maxRecDepth 100000 in
set_option maxHeartbeats 8000000 in
theorem DrawShortBefore_any (w : World) (v : Value) (hb : BytesArg w v) :
    Calls Try.prog 14 #[v] w fun e w' => ∃ t p x : Int, e = .returned (.tuple #[.agg #[.int .i64 t, .int .i64 p], .int .i64 x]) ∧ Below w.heap.size w w' := by
  have HD := Lib.hid (DrawNumbersBefore_any (w.alloc (.cells #[.int .i64 0, .int .i64 0] 25)) v (hb.kept ((Below.refl w.heap.size w).alloc (Nat.le_refl _) _) (Nat.le_refl _)))
  obtain ⟨av, nv, cv, hv, -, -⟩ := hb
  subst hv
  have B0 := Lib.hid (Box2.new w (.int .i64 0) (.int .i64 0) 25)
  go_enter Try.func14, Try.ntmps14
  go_wp2_with fail
  refine HD.out.mono ?_
  rintro e w1 ⟨t, p, x, rfl, hb1⟩
  have L1 := Lib.hid (((Below.refl w.heap.size w).alloc (Nat.le_refl _) (.cells #[.int .i64 0, .int .i64 0] 25)).trans (hb1.mono (by simp)))
  obtain ⟨d0, d1, f0, f1, hz⟩ := B0.out.kept hb1 (by simp)
  clear hb1 HD B0
  go_wp2
  exact bodyPost_ret (v := .tuple #[.agg #[.int .i64 t, .int .i64 p], .int .i64 x]) (by simp [results, Try.results14, go_sem, d0, d1]) rfl ⟨t, p, x, rfl, (L1.out.setCell (Nat.le_refl _) _).setCell (Nat.le_refl _) _⟩
set_option maxRecDepth 100000 in
set_option maxHeartbeats 8000000 in
theorem DrawInTreeUpTo_any (w : World) (v : Value) (hb : BytesArg w v) :
    Calls Try.prog 24 #[v] w fun e w' => ∃ t p r k l : Int, e = .returned (.tuple #[.agg #[.int .i64 t, .int .i64 p], .int .i64 r, .int .i64 k, .int .i64 l]) ∧ Below w.heap.size w w' := by
  obtain ⟨g, hge⟩ : ∃ g, g = w.heap.size + 1 := ⟨_, rfl⟩
  have hlt : w.heap.size ≠ g := by omega
  have C0 : Hid (Cur ((w.alloc (.cells #[.int .i64 0, .int .i64 0] 25)).alloc (.cells #[v, .int .i64 0, .int .u64 0] 62)) g 0) := Lib.hid (by rw [hge]; exact Cur.new hb _ _ _ _)
  have B0 := Lib.hid ((Box2.new w (.int .i64 0) (.int .i64 0) 25).alloc (.cells #[v, .int .i64 0, .int .u64 0] 62))
  have L0 := Lib.hid (((Below.refl w.heap.size w).alloc (Nat.le_refl _) (.cells #[.int .i64 0, .int .i64 0] 25)).alloc (by simp) (.cells #[v, .int .i64 0, .int .u64 0] 62))
  obtain ⟨av, nv, cv, hv, -, -⟩ := hb
  subst hv
  go_enter Try.func24, Try.ntmps24
  go_wp2_with fail
  rw [← hge]
  refine (rooted_any _ g 0 (by omega) C0.out).mono ?_
  rintro e w1 ⟨t, p, r, k, -, -, rfl, hc, hg⟩
  have L1 := L0.out.grown hg (by simp; omega) (fun j hj => by injection hj; omega)
  have B1 := B0.out.grown' hg hlt
  have hz1 : w.heap.size < w1.heap.size := B1.lt
  have hzg : g < w1.heap.size := hc.lt
  have C2 := Lib.hid (hc.kept ((Below.refl w1.heap.size w1).alloc (Nat.le_refl _) (.cells #[.int .i64 t, .int .i64 p] 25)) hzg)
  have B2 := Lib.hid (B1.alloc (.cells #[.int .i64 t, .int .i64 p] 25))
  have D2 := Lib.hid (Box2.new w1 (.int .i64 t) (.int .i64 p) 25)
  have L2 := Lib.hid (L1.alloc (Nat.le_of_lt hz1) (.cells #[.int .i64 t, .int .i64 p] 25))
  clear hc hg C0 B0 L0 L1 B1
  obtain ⟨e0, e1, -, -, hq0⟩ := D2.out
  obtain ⟨S, hS⟩ : ∃ S, S = w1.alloc (.cells #[.int .i64 t, .int .i64 p] 25) := ⟨_, rfl⟩
  rw [← hS] at C2 B2 D2 L2 e0 e1 hq0
  go_wp2_with fail
  rw [← hS]
  clear hS
  go_region_with (go_at_call 57; rw [← hge]; (first | refine (among_arr S g _ _ _ 8 rfl (by decide) (by decide) (by kernel_rfl) (by omega) C2.out).mono ?_ | refine (among_drew S g _ _ _ 8 rfl (by decide) (by decide) (by kernel_rfl) (by omega) C2.out).mono ?_); rintro e w9 ⟨q, hq, rfl, hc, hg⟩; obtain ⟨d0, d1, f0, f1, hz9⟩ := B2.out.grown' hg hlt; obtain ⟨e0, e1, -, -, -⟩ := D2.out.grown' hg (Nat.ne_of_gt hzg); have L9 := Lib.hid (L2.out.grown hg (Nat.le_of_lt B2.out.lt) (fun j hj => by injection hj; omega)); clear hc hg hq)
  all_goals
    go_wp2_with fail
    first
      | exact bodyPost_ret (v := .tuple #[.agg #[.int .i64 t, .int .i64 p], .int .i64 r, .int .i64 k, .int .i64 q]) (by simp [results, Try.results24, go_sem, d0, d1]) rfl ⟨t, p, r, k, q, rfl, (L9.out.setCell (Nat.le_refl _) _).setCell (Nat.le_refl _) _⟩
      | exact bodyPost_ret (v := .tuple #[.agg #[.int .i64 t, .int .i64 p], .int .i64 r, .int .i64 k, .int .i64 q]) (by simp [results, Try.results24, go_sem, d0, d1]) rfl ⟨t, p, r, k, q, rfl, ((L9.out.setCell (Nat.le_refl _) _).setCell (Nat.le_refl _) _).drew⟩
theorem wf_num {x : Int} (h : numB x = true) : (Lit.int .i64 x).wf = true := by
  obtain ⟨h1, h2⟩ := numB_iff.1 h
  simp only [Lit.wf, IntKind.min, IntKind.max, IntKind.signed, IntKind.bits, Bool.and_eq_true, decide_eq_true_eq, if_true]
  omega
set_option maxRecDepth 100000 in
set_option maxHeartbeats 8000000 in
theorem DrawIsInLevel_any (w : World) (v : Value) (hb : BytesArg w v) :
    Calls Try.prog 17 #[v] w fun e w' => ∃ t p r k y : Int, (Lit.int .i64 y).wf = true ∧ e = .returned (.tuple #[.agg #[.int .i64 t, .int .i64 p], .int .i64 r, .int .i64 k, .int .i64 y]) ∧ Below w.heap.size w w' := by
  obtain ⟨g, hge⟩ : ∃ g, g = w.heap.size + 1 := ⟨_, rfl⟩
  have hlt : w.heap.size ≠ g := by omega
  have C0 : Hid (Cur ((w.alloc (.cells #[.int .i64 0, .int .i64 0] 25)).alloc (.cells #[v, .int .i64 0, .int .u64 0] 62)) g 0) := Lib.hid (by rw [hge]; exact Cur.new hb _ _ _ _)
  have B0 := Lib.hid ((Box2.new w (.int .i64 0) (.int .i64 0) 25).alloc (.cells #[v, .int .i64 0, .int .u64 0] 62))
  have L0 := Lib.hid (((Below.refl w.heap.size w).alloc (Nat.le_refl _) (.cells #[.int .i64 0, .int .i64 0] 25)).alloc (by simp) (.cells #[v, .int .i64 0, .int .u64 0] 62))
  obtain ⟨av, nv, cv, hv, -, -⟩ := hb
  subst hv
  go_enter Try.func17, Try.ntmps17
  go_wp2_with fail
  rw [← hge]
  refine (rooted_any _ g 0 (by omega) C0.out).mono ?_
  rintro e w1 ⟨t, p, r, k, -, -, rfl, hc, hg⟩
  have L1 := L0.out.grown hg (by simp; omega) (fun j hj => by injection hj; omega)
  have B1 := B0.out.grown' hg hlt
  have hz1 : w.heap.size < w1.heap.size := B1.lt
  have hzg : g < w1.heap.size := hc.lt
  have C2 := Lib.hid (hc.kept ((Below.refl w1.heap.size w1).alloc (Nat.le_refl _) (.cells #[.int .i64 t, .int .i64 p] 25)) hzg)
  have B2 := Lib.hid (B1.alloc (.cells #[.int .i64 t, .int .i64 p] 25))
  have D2 := Lib.hid (Box2.new w1 (.int .i64 t) (.int .i64 p) 25)
  have L2 := Lib.hid (L1.alloc (Nat.le_of_lt hz1) (.cells #[.int .i64 t, .int .i64 p] 25))
  clear hc hg C0 B0 L0 L1 B1
  have HT := Lib.hid (fun w => trLevel_any false t p r k w)
  have HNM : Hid (∀ x ∈ lvX false t p r k, numB x = true) := Lib.hid (fun x hx => (lvX_num hx).2)
  have NX : Hid ((lvX false t p r k).length ≤ 2000) := Lib.hid (lvX_len false t p r k)
  go_wp2_with fail
  refine (HT.out _).mono ?_
  rintro e w3 ⟨u, rfl, hrow, hb3⟩
  have C3 := Lib.hid (C2.out.kept hb3 C2.out.lt)
  have B3 := Lib.hid (B2.out.kept hb3 B2.out.lt)
  have D3 := Lib.hid (D2.out.kept hb3 D2.out.lt)
  have L3 := Lib.hid (L2.out.trans (hb3.mono (Nat.le_of_lt B2.out.lt)))
  have R3 := Lib.hid hrow
  have hzw : g < w3.heap.size := C3.out.lt
  clear hb3 hrow C2 B2 D2 L2 HT
  generalize lvX false t p r k = xs at *
  generalize lvB false t p r k = ok at *
  obtain ⟨L, hL⟩ : ∃ L, xs.length = L := ⟨_, rfl⟩
  by_cases hs : ok = true ∧ 0 < L
  · obtain ⟨rfl, hL0⟩ := hs
    have hl0 : (0 : Int) < (L : Int) := by omega
    have hl1 : (L : Int) ≤ 2000 := by have := NX.out; omega
    obtain ⟨gl, cl, hu, hgl0, hgl, _, _, hrow⟩ := ints_row R3.out (by omega)
    rw [hL] at hu
    subst hu
    have hgg : gl ≠ g := by simp at hgl0; omega
    have hgw : ¬ gl = w.heap.size := by simp at hgl0; omega
    have hgw' : ¬ w.heap.size = gl := fun e => hgw e.symm
    have HC : Hid (∀ m, m < L → w3.cell? ⟨gl, m, none⟩ = some (.int .i64 (xs.getD m 0)) ∧ numB (xs.getD m 0) = true) := Lib.hid fun m hm => ⟨(hrow m (by omega)).1, HNM.out _ (by rw [List.getD_eq_getElem?_getD, List.getElem?_eq_getElem (by omega)]; exact List.getElem_mem _)⟩
    clear hrow hgl0 hL NX R3 HNM
    go_wp2_with fail
    rw [← hge]
    refine (one_any _ g _ 2 (by omega) (by omega) (by omega) C3.out).mono ?_
    rintro e w4 ⟨b, rfl, hc, hg⟩
    have L4 := Lib.hid (L3.out.grown hg (Nat.le_of_lt B3.out.lt) (fun j hj => by injection hj; omega))
    have B4 := Lib.hid (B3.out.grown' hg hlt)
    have D4 := Lib.hid (D3.out.grown' hg (Nat.ne_of_gt hzg))
    have hn4 : some gl ≠ some g := fun e => hgg (Option.some.inj e)
    have hgl4 : gl < w4.heap.size := Nat.lt_of_lt_of_le hgl hg.size
    have HC4 : Hid (∀ m, m < L → w4.cell? ⟨gl, m, none⟩ = some (.int .i64 (xs.getD m 0)) ∧ numB (xs.getD m 0) = true) := Lib.hid fun m hm => ⟨hg.cell (HC.out m hm).1 hn4, (HC.out m hm).2⟩
    have C4 := Lib.hid hc
    clear hc hg L3 B3 D3 C3 HC
    cases b
    · go_wp2_with fail
      obtain ⟨e0, e1, -, -, hq0⟩ := D4.out
      go_region_with (go_at_call 50; rw [← hge]; (first | refine (number_any _ g _ (by omega) C4.out).mono ?_ | refine (number_any _ g _ (by omega) (C4.out.kept (Below.drew (Below.refl w4.heap.size w4)) C4.out.lt)).mono ?_); rintro e w9 ⟨q, hq, rfl, hc, hg⟩; have HQ := Lib.hid hq; obtain ⟨hg9⟩ : Nonempty (w4.grownBy w9 (some g)) := ⟨by first | exact hg | exact ⟨hg.os, hg.tape, hg.output, hg.size, hg.block⟩⟩; obtain ⟨d0, d1, f0, f1, hz9⟩ := B4.out.grown' hg9 hlt; obtain ⟨e0, e1, -, -, -⟩ := D4.out.grown' hg9 (Nat.ne_of_gt hzg); have L9 := Lib.hid (L4.out.grown hg9 (Nat.le_of_lt B4.out.lt) (fun j hj => by injection hj; omega)); clear hc hg hg9 hq)
      all_goals
        go_wp2_with fail
        first
          | exact bodyPost_ret (v := .tuple #[.agg #[.int .i64 t, .int .i64 p], .int .i64 r, .int .i64 k, .int .i64 q]) (by simp [results, Try.results17, go_sem, d0, d1]) rfl ⟨t, p, r, k, q, HQ.out, rfl, (L9.out.setCell (Nat.le_refl _) _).setCell (Nat.le_refl _) _⟩
          | exact bodyPost_ret (v := .tuple #[.agg #[.int .i64 t, .int .i64 p], .int .i64 r, .int .i64 k, .int .i64 q]) (by simp [results, Try.results17, go_sem, d0, d1]) rfl ⟨t, p, r, k, q, HQ.out, rfl, ((L9.out.setCell (Nat.le_refl _) _).setCell (Nat.le_refl _) _).drew⟩
    · obtain ⟨e0, e1, -, -, hq0⟩ := D4.out
      go_wp2_with fail
      go_region_with (go_at_call 49; rw [← hge]; (first | refine (pick_any _ g _ L (by omega) (by omega) (by omega) C4.out).mono ?_ | refine (pick_any _ g _ L (by omega) (by omega) (by omega) (C4.out.kept (Below.drew (Below.refl w4.heap.size w4)) C4.out.lt)).mono ?_); rintro e w9 ⟨q, q0, q1, rfl, hc, hg⟩; obtain ⟨hg9⟩ : Nonempty (w4.grownBy w9 (some g)) := ⟨by first | exact hg | exact ⟨hg.os, hg.tape, hg.output, hg.size, hg.block⟩⟩; obtain ⟨d0, d1, f0, f1, hz9⟩ := B4.out.grown' hg9 hlt; obtain ⟨e0, e1, -, -, -⟩ := D4.out.grown' hg9 (Nat.ne_of_gt hzg); have L9 := Lib.hid (L4.out.grown hg9 (Nat.le_of_lt B4.out.lt) (fun j hj => by injection hj; omega)); have hmq : q.toNat < L := (by omega); obtain ⟨hcx, hnx⟩ := HC4.out q.toNat hmq; obtain ⟨xq, hxq⟩ : ∃ xq, xs.getD q.toNat 0 = xq := ⟨_, rfl⟩; rw [hxq] at hcx hnx; have hcell := hg9.cell hcx hn4; have HQ := Lib.hid (wf_num hnx); have hmi : q < (L : Int) := (by omega); clear hc hg hg9 q1 hcx hnx hxq hmq)
      all_goals
        go_wp2_with fail
        first
          | exact bodyPost_ret (v := .tuple #[.agg #[.int .i64 t, .int .i64 p], .int .i64 r, .int .i64 k, .int .i64 xq]) (by simp [results, Try.results17, go_sem, d0, d1]) rfl ⟨t, p, r, k, xq, HQ.out, rfl, (L9.out.setCell (Nat.le_refl _) _).setCell (Nat.le_refl _) _⟩
          | exact bodyPost_ret (v := .tuple #[.agg #[.int .i64 t, .int .i64 p], .int .i64 r, .int .i64 k, .int .i64 xq]) (by simp [results, Try.results17, go_sem, d0, d1]) rfl ⟨t, p, r, k, xq, HQ.out, rfl, ((L9.out.setCell (Nat.le_refl _) _).setCell (Nat.le_refl _) _).drew⟩
  · obtain ⟨au, cu, hu⟩ := R3.out.form
    rw [hL] at hu
    subst hu
    clear HNM NX R3 hL
    cases ok
    · clear hs
      go_wp2_with fail
      obtain ⟨e0, e1, -, -, hq0⟩ := D3.out
      go_region_with (go_at_call 50; rw [← hge]; (first | refine (number_any _ g _ (by omega) C3.out).mono ?_ | refine (number_any _ g _ (by omega) (C3.out.kept (Below.drew (Below.refl w3.heap.size w3)) C3.out.lt)).mono ?_); rintro e w9 ⟨q, hq, rfl, hc, hg⟩; have HQ := Lib.hid hq; obtain ⟨hg9⟩ : Nonempty (w3.grownBy w9 (some g)) := ⟨by first | exact hg | exact ⟨hg.os, hg.tape, hg.output, hg.size, hg.block⟩⟩; obtain ⟨d0, d1, f0, f1, hz9⟩ := B3.out.grown' hg9 hlt; obtain ⟨e0, e1, -, -, -⟩ := D3.out.grown' hg9 (Nat.ne_of_gt hzg); have L9 := Lib.hid (L3.out.grown hg9 (Nat.le_of_lt B3.out.lt) (fun j hj => by injection hj; omega)); clear hc hg hg9 hq)
      all_goals
        go_wp2_with fail
        first
          | exact bodyPost_ret (v := .tuple #[.agg #[.int .i64 t, .int .i64 p], .int .i64 r, .int .i64 k, .int .i64 q]) (by simp [results, Try.results17, go_sem, d0, d1]) rfl ⟨t, p, r, k, q, HQ.out, rfl, (L9.out.setCell (Nat.le_refl _) _).setCell (Nat.le_refl _) _⟩
          | exact bodyPost_ret (v := .tuple #[.agg #[.int .i64 t, .int .i64 p], .int .i64 r, .int .i64 k, .int .i64 q]) (by simp [results, Try.results17, go_sem, d0, d1]) rfl ⟨t, p, r, k, q, HQ.out, rfl, ((L9.out.setCell (Nat.le_refl _) _).setCell (Nat.le_refl _) _).drew⟩
    · have hl0 : L = 0 := by
        rcases Nat.eq_zero_or_pos L with h | h
        · exact h
        · exact absurd ⟨rfl, h⟩ hs
      subst hl0
      clear hs
      go_wp2_with fail
      obtain ⟨e0, e1, -, -, hq0⟩ := D3.out
      go_region_with (go_at_call 50; rw [← hge]; (first | refine (number_any _ g _ (by omega) C3.out).mono ?_ | refine (number_any _ g _ (by omega) (C3.out.kept (Below.drew (Below.refl w3.heap.size w3)) C3.out.lt)).mono ?_); rintro e w9 ⟨q, hq, rfl, hc, hg⟩; have HQ := Lib.hid hq; obtain ⟨hg9⟩ : Nonempty (w3.grownBy w9 (some g)) := ⟨by first | exact hg | exact ⟨hg.os, hg.tape, hg.output, hg.size, hg.block⟩⟩; obtain ⟨d0, d1, f0, f1, hz9⟩ := B3.out.grown' hg9 hlt; obtain ⟨e0, e1, -, -, -⟩ := D3.out.grown' hg9 (Nat.ne_of_gt hzg); have L9 := Lib.hid (L3.out.grown hg9 (Nat.le_of_lt B3.out.lt) (fun j hj => by injection hj; omega)); clear hc hg hg9 hq)
      all_goals
        go_wp2_with fail
        first
          | exact bodyPost_ret (v := .tuple #[.agg #[.int .i64 t, .int .i64 p], .int .i64 r, .int .i64 k, .int .i64 q]) (by simp [results, Try.results17, go_sem, d0, d1]) rfl ⟨t, p, r, k, q, HQ.out, rfl, (L9.out.setCell (Nat.le_refl _) _).setCell (Nat.le_refl _) _⟩
          | exact bodyPost_ret (v := .tuple #[.agg #[.int .i64 t, .int .i64 p], .int .i64 r, .int .i64 k, .int .i64 q]) (by simp [results, Try.results17, go_sem, d0, d1]) rfl ⟨t, p, r, k, q, HQ.out, rfl, ((L9.out.setCell (Nat.le_refl _) _).setCell (Nat.le_refl _) _).drew⟩
end Go.Proofs.Ytjcpdlamgjpmmaa
