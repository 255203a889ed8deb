/-
  THE WALK OF THE LAW 'OddPartsOfAll' (gen_oa.py).
-/
import Derived.Test.YtljolgkdpnpgcaaDoorOaM
import Derived.Test.YtljolgkdpnpgcaaDoorOaP
import Derived.Deep.CutRange
import Derived.Deep.RegionHeld3
namespace Go.Proofs.YtljolgkdpnpgcaaDoor
open Go.RowKit
set_option linter.unusedVariables false

/-- A map in a block. -/
structure Two (W : World) (b : Nat) (t p : Int) : Prop where
  c0 : W.cell? ⟨b, 0, none⟩ = some (.int .i64 t)
  c1 : W.cell? ⟨b, 1, none⟩ = some (.int .i64 p)
  lt : b < W.heap.size
theorem Two.kept {W W' : World} {b : Nat} {t p : Int} (h : Two W b t p) (hb : Below W.heap.size W W') : Two W' b t p := ⟨(hb.cell (p := ⟨b, 0, none⟩) h.lt).trans h.c0, (hb.cell (p := ⟨b, 1, none⟩) h.lt).trans h.c1, Nat.lt_of_lt_of_le h.lt hb.size⟩
theorem Two.new (W : World) (t p : Int) (T : TypeId) {b : Nat} (hb : W.heap.size = b) : Two (W.alloc (.cells #[.int .i64 t, .int .i64 p] T)) b t p := by
  subst hb
  exact ⟨by go_simp, by go_simp, by simp⟩
theorem below_newA (w : World) (X : Obj) : Below w.heap.size w (w.alloc X) := (Below.refl w.heap.size w).alloc (Nat.le_refl _) X
theorem eqMapQ (a b c d : Int) (w : World) : (Op.equalIn 10000 23 (.agg #[.int .i64 a, .int .i64 b]) (.agg #[.int .i64 c, .int .i64 d])).run Tryd.prog w = .ok (a == c && b == d) w := by
  rw [show (10000 : Nat) = 9999 + 1 from rfl, run_equalIn_struct _ _ _ _ _ (by kernel_rfl) (by kernel_rfl)]
  cases h1 : (a == c) <;> cases h2 : (b == d) <;> simp [go_sem, Op.eqFields, h1, h2]
theorem np_putA {Q : Exit → Act → World → Prop} {d : Option Tmp} {v : Value} : ∀ c (a : Act) (w : World), NoPanic Q (Exit.panic c) (a.put d v) w → NoPanic Q (Exit.panic c) a w := fun _ _ _ h => h
theorem neg_flag (t p : Int) : (neg t p).2.2 = goodB t p := by
  unfold neg; split
  · rename_i h; exact h.symm
  · rename_i h; simpa using h
theorem neg_on {t p : Int} (h : goodB t p = true) : neg t p = (t, -p, true) := by rw [neg, if_pos h]
theorem mtx_lenA (t p : Int) : (mtx t p).length = 4 := by simp [mtx, sgd_len]
theorem byt_sizeA (l : List UInt8) : (byt l).size = l.length := by simp [byt, ByteArray.size]
set_option maxRecDepth 100000 in
theorem law_longA (n t1 p1 x t2 p2 y t3 p3 : Int) (s : ByteArray) (t4 p4 z g : Int) (hs : 1048576 < (s.size : Int)) (w : World) :
    Calls Tryd.prog 3 #[.int .i64 n, .agg #[.int .i64 t1, .int .i64 p1], .int .i64 x, .agg #[.int .i64 t2, .int .i64 p2], .int .i64 y, .agg #[.int .i64 t3, .int .i64 p3], .string s, .agg #[.int .i64 t4, .int .i64 p4], .int .i64 z, .int .i64 g] w fun e w' => e = .returned (.bool true) ∧ Below w.heap.size w w' := by
  go_enter Tryd.func3, Tryd.ntmps3
  go_wp2_with fail
  go_ret
  exact ⟨rfl, (((below_newA w _).alloc (by simp) _).alloc (by simp; omega) _).alloc (by simp; omega) _⟩

set_option maxRecDepth 100000 in
set_option maxHeartbeats 16000000 in
theorem fnOddPartsOfAll_law (n t1 p1 x t2 p2 y t3 p3 : Int) (s : ByteArray) (t4 p4 z g : Int) (hn : (Lit.int .i64 n).wf = true) (hx : (Lit.int .i64 x).wf = true) (hy : (Lit.int .i64 y).wf = true) (hz : (Lit.int .i64 z).wf = true) (hg : (Lit.int .i64 g).wf = true) (w : World) (hw : Set3 w) :
    Calls Tryd.prog 3 #[.int .i64 n, .agg #[.int .i64 t1, .int .i64 p1], .int .i64 x, .agg #[.int .i64 t2, .int .i64 p2], .int .i64 y, .agg #[.int .i64 t3, .int .i64 p3], .string s, .agg #[.int .i64 t4, .int .i64 p4], .int .i64 z, .int .i64 g] w fun e w' => e = .returned (.bool true) ∧ Below w.heap.size w w' := by
  by_cases hl1 : 1048576 < (s.size : Int)
  · exact law_longA n t1 p1 x t2 p2 y t3 p3 s t4 p4 z g hl1 w
  have hsz : s.size ≤ 1048576 := by omega
  have HW := Lib.hid hw
  -- what each call comes to
  have C1 := Lib.hid (fun W => iOddPart n W)
  have C2 := Lib.hid (fun W => sOddPart n W)
  have C3 := Lib.hid (fun W => iOddNext t1 p1 x W)
  have C4 := Lib.hid (fun W => sOddNext t1 p1 x W)
  have C5 := Lib.hid (fun W => iFirstBelow t2 p2 y W)
  have C6 := Lib.hid (fun W => sFirstBelow t2 p2 y W)
  have C7 := Lib.hid (fun W hT => iMapText t3 p3 W hT)
  have C8 := Lib.hid (fun W => sMapText t3 p3 W)
  have C9 := Lib.hid (fun W => iNegativeMap t3 p3 W)
  have C10 := Lib.hid (fun W => sNegativeMap t3 p3 W)
  have C11 := Lib.hid (fun W hW => iParseA s hsz W hW)
  have C12 := Lib.hid (fun W => sParseA s W)
  have C13 := Lib.hid (fun W => iStepsTo t4 p4 z g W)
  have C14 := Lib.hid (fun W => sStepsTo t4 p4 z g W)
  have C15 := Lib.hid (fun W => isMap_any t3 p3 W)
  rw [neg_flag] at C9 C10
  -- what they have to do with each other
  have M1 := Lib.hid (fun (h : (odp n).2.2 = true) => odp_yes h)
  have M2 : Hid ((odn t1 p1 x).2.2 = true → (∀ W, Calls Tryd.prog 19 #[.agg #[.int .i64 t1, .int .i64 p1], .int .i64 x] W fun e w' => e = .returned (.tuple #[.int .i64 (aft t1 p1 (nx t1 p1) x 1).1, .bool true]) ∧ Below W.heap.size W w') ∧ (∀ W, Calls Tryd.prog 4 #[.int .i64 (aft t1 p1 (nx t1 p1) x 1).1] W fun e w' => e = .returned (.tuple #[.int .i64 (odn t1 p1 x).1, .int .i64 (odn t1 p1 x).2.1, .bool true]) ∧ W = w') ∧ (x.tmod 2 == 0) = false ∧ 1 ≤ (odn t1 p1 x).2.1) := Lib.hid (fun h => by
    obtain ⟨h1, h2, h3, h4⟩ := odn_yes h
    refine ⟨fun W => ?_, fun W => ?_, by rw [even_tmod, h2]; rfl, h4⟩
    · have c := iNextNumber t1 p1 x W
      rw [h1] at c
      exact c
    · have c := iOddPart (aft t1 p1 (nx t1 p1) x 1).1 W
      rw [h3, h] at c
      exact c)
  have M3 : Hid ((fbl t2 p2 y).2 = true → ∃ v l b : Int, (∀ W, Calls Tryd.prog 20 #[.agg #[.int .i64 t2, .int .i64 p2], .int .i64 y, .int .i64 (fbl t2 p2 y).1] W fun e w' => e = .returned (.tuple #[.int .i64 v, .bool true]) ∧ Below W.heap.size W w') ∧ (∀ W, Calls Tryd.prog 21 #[.agg #[.int .i64 t2, .int .i64 p2], .int .i64 y, .int .i64 ((fbl t2 p2 y).1 - 1)] W fun e w' => e = .returned (.tuple #[.int .i64 l, .int .i64 b, .bool true]) ∧ Below W.heap.size W w') ∧ v < y ∧ y ≤ l ∧ 1 ≤ (fbl t2 p2 y).1 ∧ (fbl t2 p2 y).1 ≤ 1000) := Lib.hid (fun h => by
    obtain ⟨j, e1, e2, e3, e4, e5, e6, e7⟩ := fbl_yes h
    refine ⟨itr (nx t2 p2) j y, (pk false t2 p2 y ((j : Int) - 1)).1, (pk false t2 p2 y ((j : Int) - 1)).2.1, fun W => ?_, fun W => ?_, e5, e7, by omega, by omega⟩
    · have c := iNumberAfter t2 p2 y (fbl t2 p2 y).1 W
      rw [e1, e4] at c
      rw [e1]
      exact c
    · have c := iLowOf t2 p2 y ((j : Int) - 1) W
      rw [e6] at c
      rw [e1]
      exact c)
  have M5 : Hid (goodB t3 p3 = true → (∀ W, Set3 W → Calls Tryd.prog 14 #[.string (mpt t3 p3)] W fun e w' => e = .returned (.tuple #[.agg #[.int .i64 t3, .int .i64 p3], .bool true]) ∧ Below W.heap.size W w') ∧ (∀ W, Calls Tryd.prog 12 #[.agg #[.int .i64 (neg t3 p3).1, .int .i64 (neg t3 p3).2.1]] W fun e w' => e = .returned (.tuple #[.agg #[.int .i64 t3, .int .i64 p3], .bool true]) ∧ Below W.heap.size W w')) := Lib.hid (fun h => by
    refine ⟨fun W hW => ?_, fun W => ?_⟩
    · have e : mpt t3 p3 = byt (mtx t3 p3) := by rw [mpt, if_pos h]
      have c := iParseA (byt (mtx t3 p3)) (by have := mtx_lenA t3 p3; rw [byt_sizeA]; omega) W hW
      rw [rdm_text h, rdB_text h] at c
      rw [e]
      exact c
    · have c := iNegativeMap t3 (-p3) W
      rw [neg_on (neg_good h), Int.neg_neg] at c
      rw [neg_on h]
      exact c)
  have M9 : Hid (rdB s = true → (∀ W, Tab W → Calls Tryd.prog 10 #[.agg #[.int .i64 (rdm s).1, .int .i64 (rdm s).2]] W fun e w' => e = .returned (.tuple #[.string s, .bool true]) ∧ Below W.heap.size W w')) := Lib.hid (fun h W hT => by
    obtain ⟨h1, h2⟩ := rdm_back (rdB_iff.1 h)
    have c := iMapText (rdm s).1 (rdm s).2 W hT
    rw [h1, mpt, if_pos h1, h2] at c
    exact c)
  have M11 : Hid ((sto t4 p4 z g).2 = true → (∀ W, Calls Tryd.prog 20 #[.agg #[.int .i64 t4, .int .i64 p4], .int .i64 z, .int .i64 (sto t4 p4 z g).1] W fun e w' => e = .returned (.tuple #[.int .i64 g, .bool true]) ∧ Below W.heap.size W w')) := Lib.hid (fun h W => by
    have c := iNumberAfter t4 p4 z (sto t4 p4 z g).1 W
    rw [sto_back h] at c
    exact c)
  have heqm := eqMapQ
  generalize odp n = d1 at C1 C2 M1
  obtain ⟨o1, m1, b1⟩ := d1
  generalize odn t1 p1 x = d2 at C3 C4 M2
  obtain ⟨a1, k1, b2⟩ := d2
  generalize (aft t1 p1 (nx t1 p1) x 1).1 = nn at M2
  generalize fbl t2 p2 y = d3 at C5 C6 M3
  obtain ⟨f1, b3⟩ := d3
  generalize mpt t3 p3 = T at C7 C8 M5
  generalize goodB t3 p3 = b5 at C7 C8 C9 C10 C15 M5
  generalize neg t3 p3 = d5 at C9 C10 M5
  obtain ⟨n1, n2, b6⟩ := d5
  generalize rdm s = d9 at C11 C12 M9
  obtain ⟨r1, r2⟩ := d9
  generalize rdB s = b9 at C11 C12 M9
  generalize sto t4 p4 z g = d11 at C13 C14 M11
  obtain ⟨q1, b11⟩ := d11
  dsimp only at C1 C2 C3 C4 C5 C6 C9 C10 C11 C12 C13 C14 M1 M2 M3 M5 M9 M11
  have hT := str_eq T
  clear hn hx hy hz hg hw hsz
  go_enter Tryd.func3, Tryd.ntmps3
  go_wp2_with fail
  refine (C1.out _).mono ?_
  rintro e w1 ⟨rfl, rfl⟩
  go_wp2_with fail
  refine (C2.out _).mono ?_
  rintro e w1 ⟨rfl, rfl⟩
  have H1 := Lib.hid (Two.kept (Two.new w t1 p1 23 rfl) (below_newA _ (.cells #[.int .i64 t2, .int .i64 p2] 23)))
  have H2 := Lib.hid (Two.new (w.alloc (.cells #[.int .i64 t1, .int .i64 p1] 23)) t2 p2 23 (b := w.heap.size + 1) (by simp))
  replace H1 := Lib.hid ((H1.out.kept (below_newA _ (.cells #[.int .i64 t3, .int .i64 p3] 23))).kept (below_newA _ (.cells #[.int .i64 t4, .int .i64 p4] 23)))
  replace H2 := Lib.hid ((H2.out.kept (below_newA _ (.cells #[.int .i64 t3, .int .i64 p3] 23))).kept (below_newA _ (.cells #[.int .i64 t4, .int .i64 p4] 23)))
  have H3 := Lib.hid ((Two.new ((w.alloc (.cells #[.int .i64 t1, .int .i64 p1] 23)).alloc (.cells #[.int .i64 t2, .int .i64 p2] 23)) t3 p3 23 (b := w.heap.size + 1 + 1) (by simp)).kept (below_newA _ (.cells #[.int .i64 t4, .int .i64 p4] 23)))
  have H4 := Lib.hid (Two.new (((w.alloc (.cells #[.int .i64 t1, .int .i64 p1] 23)).alloc (.cells #[.int .i64 t2, .int .i64 p2] 23)).alloc (.cells #[.int .i64 t3, .int .i64 p3] 23)) t4 p4 23 (b := w.heap.size + 1 + 1 + 1) (by simp))
  have HB : Hid (Below w.heap.size w ((((w.alloc (.cells #[.int .i64 t1, .int .i64 p1] 23)).alloc (.cells #[.int .i64 t2, .int .i64 p2] 23)).alloc (.cells #[.int .i64 t3, .int .i64 p3] 23)).alloc (.cells #[.int .i64 t4, .int .i64 p4] 23))) := Lib.hid ((((below_newA w _).alloc (by simp) _).alloc (by simp; omega) _).alloc (by simp; omega) _)
  go_upto_if 101 with fail
  generalize hw0 : ((((w.alloc (.cells #[.int .i64 t1, .int .i64 p1] 23)).alloc (.cells #[.int .i64 t2, .int .i64 p2] 23)).alloc (.cells #[.int .i64 t3, .int .i64 p3] 23)).alloc (.cells #[.int .i64 t4, .int .i64 p4] 23)) = w0 at *
  clear hw0
  go_cut [27, 28] from 102 to 125 (fun s27 s28 wx => Hid (w0 = wx))
  case first =>
    clear H1 H2 H3 H4 HB C1 C2 C3 C4 C5 C6 C7 C8 C9 C10 C11 C12 C13 C14 C15 M2 M3 M5 M9 M11
    cases b1
    · go_wp2_with fail
      go_meet
      case rel => exact Lib.hid rfl
    · obtain ⟨m, e1, hm40, hodd, hback, hn0, _, hn1, hn2⟩ := M1.out rfl
      subst e1
      have hot : (o1.tmod 2 == 0) = false := by rw [even_tmod]; simp [oddB]; omega
      have hmn : ¬ ((m : Int) < 0) := by omega
      have HBK := Lib.hid hback
      have HSM : Hid (∀ j, j ≤ m → -1000000000000 ≤ o1 * 2 ^ j ∧ o1 * 2 ^ j ≤ 1000000000000) := Lib.hid (fun j hj => back_small hback hj hn1 hn2)
      clear hback hodd hn0 M1
      go_wp2_with fail
      go_loop [27, 28] (fun bk k => ∃ j : Nat, j ≤ m ∧ bk = .int .i64 (o1 * 2 ^ j) ∧ k = .int .i64 (j : Int)) (fun _ k => m - (RowKit.intOf k).toNat)
      case atStart => exact ⟨0, Nat.zero_le _, by simp, rfl⟩
      case round =>
        obtain ⟨j, hj, rfl, rfl⟩ := hrel
        by_cases hlt : j < m
        · have h1 : (j : Int) < (m : Int) := by omega
          have h2 : (j : Int) < 64 := by omega
          obtain ⟨s1, s2⟩ := HSM.out j hj
          have HP : Hid (o1 * 2 ^ j * 2 = o1 * 2 ^ (j + 1)) := Lib.hid (by rw [Int.pow_succ, Int.mul_assoc])
          generalize o1 * 2 ^ j = B at *
          go_wp2_with fail
          exact ⟨⟨j + 1, hlt, by rw [← HP.out], by go_num⟩, by simp [RowKit.intOf]; omega⟩
        · obtain rfl : j = m := by omega
          have h1 : ¬ ((j : Int) < (j : Int)) := by omega
          rw [HBK.out]
          go_wp2_with fail
          go_meet
          case rel => exact Lib.hid rfl
  case rest =>
    have hwx := hcut.out
    subst hwx
    clear hcut C1 C2 M1
    obtain ⟨h10, h11, _⟩ := H1.out
    go_wp2_with fail
    refine (C3.out _).mono ?_
    rintro e w1 ⟨rfl, hb⟩
    clear h10 h11
    replace H1 := Lib.hid (H1.out.kept hb)
    replace H2 := Lib.hid (H2.out.kept hb)
    replace H3 := Lib.hid (H3.out.kept hb)
    replace H4 := Lib.hid (H4.out.kept hb)
    replace HB := Lib.hid (HB.out.trans (hb.mono HB.out.size))
    clear hb
    obtain ⟨h10, h11, _⟩ := H1.out
    go_wp2_with fail
    refine (C4.out _).mono ?_
    rintro e w2 ⟨rfl, hb⟩
    clear h10 h11
    replace H1 := Lib.hid (H1.out.kept hb)
    replace H2 := Lib.hid (H2.out.kept hb)
    replace H3 := Lib.hid (H3.out.kept hb)
    replace H4 := Lib.hid (H4.out.kept hb)
    replace HB := Lib.hid (HB.out.trans (hb.mono HB.out.size))
    clear hb
    obtain ⟨h20, h21, _⟩ := H2.out
    go_wp2_with fail
    refine (C5.out _).mono ?_
    rintro e w3 ⟨rfl, hb⟩
    clear h20 h21
    replace H1 := Lib.hid (H1.out.kept hb)
    replace H2 := Lib.hid (H2.out.kept hb)
    replace H3 := Lib.hid (H3.out.kept hb)
    replace H4 := Lib.hid (H4.out.kept hb)
    replace HB := Lib.hid (HB.out.trans (hb.mono HB.out.size))
    clear hb
    obtain ⟨h20, h21, _⟩ := H2.out
    go_wp2_with fail
    refine (C6.out _).mono ?_
    rintro e w4 ⟨rfl, hb⟩
    clear h20 h21
    replace H1 := Lib.hid (H1.out.kept hb)
    replace H2 := Lib.hid (H2.out.kept hb)
    replace H3 := Lib.hid (H3.out.kept hb)
    replace H4 := Lib.hid (H4.out.kept hb)
    replace HB := Lib.hid (HB.out.trans (hb.mono HB.out.size))
    clear hb
    obtain ⟨h30, h31, _⟩ := H3.out
    go_wp2_with fail
    refine (C7.out _ (HW.out.below HB.out).tab).mono ?_
    rintro e w5 ⟨rfl, hb⟩
    clear h30 h31
    replace H1 := Lib.hid (H1.out.kept hb)
    replace H2 := Lib.hid (H2.out.kept hb)
    replace H3 := Lib.hid (H3.out.kept hb)
    replace H4 := Lib.hid (H4.out.kept hb)
    replace HB := Lib.hid (HB.out.trans (hb.mono HB.out.size))
    clear hb
    obtain ⟨h30, h31, _⟩ := H3.out
    go_wp2_with fail
    refine (C8.out _).mono ?_
    rintro e w6 ⟨rfl, hb⟩
    clear h30 h31
    replace H1 := Lib.hid (H1.out.kept hb)
    replace H2 := Lib.hid (H2.out.kept hb)
    replace H3 := Lib.hid (H3.out.kept hb)
    replace H4 := Lib.hid (H4.out.kept hb)
    replace HB := Lib.hid (HB.out.trans (hb.mono HB.out.size))
    clear hb
    obtain ⟨h30, h31, _⟩ := H3.out
    go_wp2_with fail
    refine (C9.out _).mono ?_
    rintro e w7 ⟨rfl, hb⟩
    clear h30 h31
    replace H1 := Lib.hid (H1.out.kept hb)
    replace H2 := Lib.hid (H2.out.kept hb)
    replace H3 := Lib.hid (H3.out.kept hb)
    replace H4 := Lib.hid (H4.out.kept hb)
    replace HB := Lib.hid (HB.out.trans (hb.mono HB.out.size))
    clear hb
    have H5 := Lib.hid (Two.new w7 n1 n2 23 rfl)
    replace H1 := Lib.hid (H1.out.kept (below_newA w7 (.cells #[.int .i64 n1, .int .i64 n2] 23)))
    replace H2 := Lib.hid (H2.out.kept (below_newA w7 (.cells #[.int .i64 n1, .int .i64 n2] 23)))
    replace H3 := Lib.hid (H3.out.kept (below_newA w7 (.cells #[.int .i64 n1, .int .i64 n2] 23)))
    replace H4 := Lib.hid (H4.out.kept (below_newA w7 (.cells #[.int .i64 n1, .int .i64 n2] 23)))
    replace HB := Lib.hid (HB.out.trans ((below_newA w7 (.cells #[.int .i64 n1, .int .i64 n2] 23)).mono HB.out.size))
    have H5s := H5.out.lt
    obtain ⟨h30, h31, _⟩ := H3.out
    go_wp2_with fail
    refine (C10.out _).mono ?_
    rintro e w8 ⟨rfl, hb⟩
    clear h30 h31
    replace H1 := Lib.hid (H1.out.kept hb)
    replace H2 := Lib.hid (H2.out.kept hb)
    replace H3 := Lib.hid (H3.out.kept hb)
    replace H4 := Lib.hid (H4.out.kept hb)
    replace H5 := Lib.hid (H5.out.kept hb)
    replace HB := Lib.hid (HB.out.trans (hb.mono HB.out.size))
    clear hb
    have H6 := Lib.hid (Two.new w8 n1 n2 23 rfl)
    replace H1 := Lib.hid (H1.out.kept (below_newA w8 (.cells #[.int .i64 n1, .int .i64 n2] 23)))
    replace H2 := Lib.hid (H2.out.kept (below_newA w8 (.cells #[.int .i64 n1, .int .i64 n2] 23)))
    replace H3 := Lib.hid (H3.out.kept (below_newA w8 (.cells #[.int .i64 n1, .int .i64 n2] 23)))
    replace H4 := Lib.hid (H4.out.kept (below_newA w8 (.cells #[.int .i64 n1, .int .i64 n2] 23)))
    replace H5 := Lib.hid (H5.out.kept (below_newA w8 (.cells #[.int .i64 n1, .int .i64 n2] 23)))
    replace HB := Lib.hid (HB.out.trans ((below_newA w8 (.cells #[.int .i64 n1, .int .i64 n2] 23)).mono HB.out.size))
    have H6s := H6.out.lt
    go_wp2_with fail
    refine (C11.out _ (HW.out.below HB.out)).mono ?_
    rintro e w9 ⟨rfl, hb⟩
    replace H1 := Lib.hid (H1.out.kept hb)
    replace H2 := Lib.hid (H2.out.kept hb)
    replace H3 := Lib.hid (H3.out.kept hb)
    replace H4 := Lib.hid (H4.out.kept hb)
    replace H5 := Lib.hid (H5.out.kept hb)
    replace H6 := Lib.hid (H6.out.kept hb)
    replace HB := Lib.hid (HB.out.trans (hb.mono HB.out.size))
    clear hb
    have H7 := Lib.hid (Two.new w9 r1 r2 23 rfl)
    replace H1 := Lib.hid (H1.out.kept (below_newA w9 (.cells #[.int .i64 r1, .int .i64 r2] 23)))
    replace H2 := Lib.hid (H2.out.kept (below_newA w9 (.cells #[.int .i64 r1, .int .i64 r2] 23)))
    replace H3 := Lib.hid (H3.out.kept (below_newA w9 (.cells #[.int .i64 r1, .int .i64 r2] 23)))
    replace H4 := Lib.hid (H4.out.kept (below_newA w9 (.cells #[.int .i64 r1, .int .i64 r2] 23)))
    replace H5 := Lib.hid (H5.out.kept (below_newA w9 (.cells #[.int .i64 r1, .int .i64 r2] 23)))
    replace H6 := Lib.hid (H6.out.kept (below_newA w9 (.cells #[.int .i64 r1, .int .i64 r2] 23)))
    replace HB := Lib.hid (HB.out.trans ((below_newA w9 (.cells #[.int .i64 r1, .int .i64 r2] 23)).mono HB.out.size))
    have H7s := H7.out.lt
    go_wp2_with fail
    refine (C12.out _).mono ?_
    rintro e w10 ⟨rfl, hb⟩
    replace H1 := Lib.hid (H1.out.kept hb)
    replace H2 := Lib.hid (H2.out.kept hb)
    replace H3 := Lib.hid (H3.out.kept hb)
    replace H4 := Lib.hid (H4.out.kept hb)
    replace H5 := Lib.hid (H5.out.kept hb)
    replace H6 := Lib.hid (H6.out.kept hb)
    replace H7 := Lib.hid (H7.out.kept hb)
    replace HB := Lib.hid (HB.out.trans (hb.mono HB.out.size))
    clear hb
    have H8 := Lib.hid (Two.new w10 r1 r2 23 rfl)
    replace H1 := Lib.hid (H1.out.kept (below_newA w10 (.cells #[.int .i64 r1, .int .i64 r2] 23)))
    replace H2 := Lib.hid (H2.out.kept (below_newA w10 (.cells #[.int .i64 r1, .int .i64 r2] 23)))
    replace H3 := Lib.hid (H3.out.kept (below_newA w10 (.cells #[.int .i64 r1, .int .i64 r2] 23)))
    replace H4 := Lib.hid (H4.out.kept (below_newA w10 (.cells #[.int .i64 r1, .int .i64 r2] 23)))
    replace H5 := Lib.hid (H5.out.kept (below_newA w10 (.cells #[.int .i64 r1, .int .i64 r2] 23)))
    replace H6 := Lib.hid (H6.out.kept (below_newA w10 (.cells #[.int .i64 r1, .int .i64 r2] 23)))
    replace H7 := Lib.hid (H7.out.kept (below_newA w10 (.cells #[.int .i64 r1, .int .i64 r2] 23)))
    replace HB := Lib.hid (HB.out.trans ((below_newA w10 (.cells #[.int .i64 r1, .int .i64 r2] 23)).mono HB.out.size))
    have H8s := H8.out.lt
    obtain ⟨h40, h41, _⟩ := H4.out
    go_wp2_with fail
    refine (C13.out _).mono ?_
    rintro e w11 ⟨rfl, hb⟩
    clear h40 h41
    replace H1 := Lib.hid (H1.out.kept hb)
    replace H2 := Lib.hid (H2.out.kept hb)
    replace H3 := Lib.hid (H3.out.kept hb)
    replace H4 := Lib.hid (H4.out.kept hb)
    replace H5 := Lib.hid (H5.out.kept hb)
    replace H6 := Lib.hid (H6.out.kept hb)
    replace H7 := Lib.hid (H7.out.kept hb)
    replace H8 := Lib.hid (H8.out.kept hb)
    replace HB := Lib.hid (HB.out.trans (hb.mono HB.out.size))
    clear hb
    obtain ⟨h40, h41, _⟩ := H4.out
    go_wp2_with fail
    refine (C14.out _).mono ?_
    rintro e w12 ⟨rfl, hb⟩
    clear h40 h41
    replace H1 := Lib.hid (H1.out.kept hb)
    replace H2 := Lib.hid (H2.out.kept hb)
    replace H3 := Lib.hid (H3.out.kept hb)
    replace H4 := Lib.hid (H4.out.kept hb)
    replace H5 := Lib.hid (H5.out.kept hb)
    replace H6 := Lib.hid (H6.out.kept hb)
    replace H7 := Lib.hid (H7.out.kept hb)
    replace H8 := Lib.hid (H8.out.kept hb)
    replace HB := Lib.hid (HB.out.trans (hb.mono HB.out.size))
    clear hb
    clear C3 C4 C5 C6 C8 C10 C12 C13 C14
    go_upto_region 27 with fail
    obtain ⟨h30, h31, _⟩ := H3.out
    obtain ⟨h50, h51, _⟩ := H5.out
    obtain ⟨h60, h61, _⟩ := H6.out
    obtain ⟨h70, h71, _⟩ := H7.out
    obtain ⟨h80, h81, _⟩ := H8.out
    generalize w7.heap.size = g5 at *
    generalize w8.heap.size = g6 at *
    generalize w9.heap.size = g7 at *
    generalize w10.heap.size = g8 at *
    simp only [List.append_eq, List.cons_append, List.nil_append]
    have l3 : w.heap.size + 1 + 1 < w12.heap.size := H3.out.lt
    have l5 : g5 < w12.heap.size := H5.out.lt
    have l6 : g6 < w12.heap.size := H6.out.lt
    have l7 : g7 < w12.heap.size := H7.out.lt
    have l8 : g8 < w12.heap.size := H8.out.lt
    go_cut [269] from 196 to 269 (fun s269 wx => s269 = .bool false ∧ Hid (Below w12.heap.size w12 wx))
    case first =>
      clear H1 H2 H4 HW HB M2 M3 M5 M9 M11 C7 C9 C11
      go_wp2_with fail
      refine (C15.out _).mono ?_
      rintro e wq ⟨rfl, hb⟩
      have HBQ := Lib.hid hb
      clear hb
      go_wp2_with fail
      go_meet
      case rel => exact ⟨rfl, HBQ⟩
    case rest =>
      obtain ⟨rfl, hb⟩ := hcut
      have hb := hb.out
      clear H6 H8
      replace H1 := Lib.hid (H1.out.kept hb)
      replace H2 := Lib.hid (H2.out.kept hb)
      replace H3 := Lib.hid (H3.out.kept hb)
      replace H4 := Lib.hid (H4.out.kept hb)
      replace H5 := Lib.hid (H5.out.kept hb)
      replace H7 := Lib.hid (H7.out.kept hb)
      replace HB := Lib.hid (HB.out.trans (hb.mono HB.out.size))
      clear hb
      clear h30 h31 h50 h51 h60 h61 h70 h71 h80 h81 l3 l5 l6 l7 l8 C15
      go_upto_if 270 with fail
      go_cut [55, 56, 57, 58, 59] from 271 to 307 (fun s55 s56 s57 s58 s59 wx => Hid (Below wc.heap.size wc wx))
      case first =>
        cases b2
        · go_wp2_with fail
          go_meet
          case rel => exact Lib.hid (Below.refl _ _)
        · obtain ⟨hn, ho, he, hk⟩ := M2.out rfl
          have hk1 : ¬ k1 < 1 := by omega
          obtain ⟨h10, h11, _⟩ := H1.out
          go_wp2_with fail
          refine (hn _).mono ?_
          rintro e wq ⟨rfl, hb⟩
          go_wp2_with fail
          refine (ho _).mono ?_
          rintro e wr ⟨rfl, rfl⟩
          go_wp2_with fail
          go_meet
          case rel => exact Lib.hid hb
      case rest =>
        have hb := hcut.out
        clear hcut
        replace H1 := Lib.hid (H1.out.kept hb)
        replace H2 := Lib.hid (H2.out.kept hb)
        replace H3 := Lib.hid (H3.out.kept hb)
        replace H4 := Lib.hid (H4.out.kept hb)
        replace H5 := Lib.hid (H5.out.kept hb)
        replace H7 := Lib.hid (H7.out.kept hb)
        replace HB := Lib.hid (HB.out.trans (hb.mono HB.out.size))
        clear hb
        go_upto_if 308 with fail
        go_cut [60, 61, 62, 63, 64] from 309 to 340 (fun s60 s61 s62 s63 s64 wx => Hid (Below wc.heap.size wc wx))
        case first =>
          cases b3
          · go_wp2_with fail
            go_meet
            case rel => exact Lib.hid (Below.refl _ _)
          · obtain ⟨v, l, b, hn, ho, hv, hl, hf1, hf2⟩ := M3.out rfl
            have hv1 : ¬ y ≤ v := by omega
            have hl1 : ¬ l < y := by omega
            obtain ⟨h20, h21, _⟩ := H2.out
            go_wp2_with fail
            refine (hn _).mono ?_
            rintro e wq ⟨rfl, hb⟩
            clear h20 h21
            replace H2 := Lib.hid (H2.out.kept hb)
            obtain ⟨h20, h21, _⟩ := H2.out
            go_wp2_with fail
            refine (ho _).mono ?_
            rintro e wr ⟨rfl, hb2⟩
            go_wp2_with fail
            go_meet
            case rel => exact Lib.hid (hb.trans (hb2.mono hb.size))
        case rest =>
          have hb := hcut.out
          clear hcut
          replace H1 := Lib.hid (H1.out.kept hb)
          replace H2 := Lib.hid (H2.out.kept hb)
          replace H3 := Lib.hid (H3.out.kept hb)
          replace H4 := Lib.hid (H4.out.kept hb)
          replace H5 := Lib.hid (H5.out.kept hb)
          replace H7 := Lib.hid (H7.out.kept hb)
          replace HB := Lib.hid (HB.out.trans (hb.mono HB.out.size))
          clear hb
          go_upto_if 341 with fail
          go_cut [65, 66, 67, 68] from 342 to 367 (fun s65 s66 s67 s68 wx => Hid (Below wc.heap.size wc wx))
          case first =>
            cases b5
            · go_wp2_with fail
              go_meet
              case rel => exact Lib.hid (Below.refl _ _)
            · obtain ⟨hn, ho⟩ := M5.out rfl
              go_wp2_with fail
              refine (hn _ (HW.out.below HB.out)).mono ?_
              rintro e wq ⟨rfl, hb⟩
              replace H5 := Lib.hid ((H5.out.kept hb).kept (below_newA wq (.cells #[.int .i64 t3, .int .i64 p3] 23)))
              replace H3 := Lib.hid ((H3.out.kept hb).kept (below_newA wq (.cells #[.int .i64 t3, .int .i64 p3] 23)))
              have HA := Lib.hid (Two.new wq t3 p3 23 rfl)
              replace hb := hb.trans ((below_newA wq (.cells #[.int .i64 t3, .int .i64 p3] 23)).mono hb.size)
              have hb := Lib.hid hb
              obtain ⟨h50, h51, _⟩ := H5.out
              go_wp2_with fail
              refine (ho _).mono ?_
              rintro e wr ⟨rfl, hb2⟩
              clear h50 h51
              replace H3 := Lib.hid ((H3.out.kept hb2).kept (below_newA wr (.cells #[.int .i64 t3, .int .i64 p3] 23)))
              replace HA := Lib.hid ((HA.out.kept hb2).kept (below_newA wr (.cells #[.int .i64 t3, .int .i64 p3] 23)))
              have HC := Lib.hid (Two.new wr t3 p3 23 rfl)
              replace hb2 := hb2.trans ((below_newA wr (.cells #[.int .i64 t3, .int .i64 p3] 23)).mono hb2.size)
              replace hb := Lib.hid (hb.out.trans (hb2.mono hb.out.size))
              clear hb2
              obtain ⟨h30, h31, _⟩ := H3.out
              obtain ⟨ha0, ha1, _⟩ := HA.out
              obtain ⟨hc0, hc1, _⟩ := HC.out
              go_wp2_with fail
              go_meet
              case rel => exact hb
          case rest =>
            have hb := hcut.out
            clear hcut
            replace H1 := Lib.hid (H1.out.kept hb)
            replace H2 := Lib.hid (H2.out.kept hb)
            replace H3 := Lib.hid (H3.out.kept hb)
            replace H4 := Lib.hid (H4.out.kept hb)
            replace H5 := Lib.hid (H5.out.kept hb)
            replace H7 := Lib.hid (H7.out.kept hb)
            replace HB := Lib.hid (HB.out.trans (hb.mono HB.out.size))
            clear hb
            go_upto_if 368 with fail
            go_cut [69, 70] from 369 to 380 (fun s69 s70 wx => Hid (Below wc.heap.size wc wx))
            case first =>
              cases b9
              · go_wp2_with fail
                go_meet
                case rel => exact Lib.hid (Below.refl _ _)
              · have hn := M9.out rfl
                obtain ⟨h70, h71, _⟩ := H7.out
                go_wp2_with fail
                refine (hn _ (HW.out.below HB.out).tab).mono ?_
                rintro e wq ⟨rfl, hb⟩
                go_wp2_with fail
                go_meet
                case rel => exact Lib.hid hb
            case rest =>
              have hb := hcut.out
              clear hcut
              replace H1 := Lib.hid (H1.out.kept hb)
              replace H2 := Lib.hid (H2.out.kept hb)
              replace H3 := Lib.hid (H3.out.kept hb)
              replace H4 := Lib.hid (H4.out.kept hb)
              replace H5 := Lib.hid (H5.out.kept hb)
              replace H7 := Lib.hid (H7.out.kept hb)
              replace HB := Lib.hid (HB.out.trans (hb.mono HB.out.size))
              clear hb
              cases b11
              · go_wp2_with fail
                go_ret
                exact ⟨rfl, HB.out⟩
              · have hn := M11.out rfl
                obtain ⟨h40, h41, _⟩ := H4.out
                go_wp2_with fail
                refine (hn _).mono ?_
                rintro e wq ⟨rfl, hb⟩
                go_wp2_with fail
                go_ret
                exact ⟨rfl, HB.out.trans (hb.mono HB.out.size)⟩
end Go.Proofs.YtljolgkdpnpgcaaDoor
