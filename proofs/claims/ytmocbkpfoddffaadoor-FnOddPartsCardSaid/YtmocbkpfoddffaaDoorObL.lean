/-
  THE WALK OF THE LAW 'OddParts' ON BYTES (gen_ob.py).
-/
import Derived.Test.YtmocbkpfoddffaaDoorOaM
import Derived.Test.YtmocbkpfoddffaaDoorOaP
import Derived.Test.YtmocbkpfoddffaaDoorOdD
import Derived.Test.YtmocbkpfoddffaaDoorOdS
import Derived.Deep.CutRange
import Derived.Deep.RegionHeld3
namespace Go.Proofs.YtmocbkpfoddffaaDoor
open Go.RowKit
set_option linter.unusedVariables false

/-- A map in a block. -/
structure Two (W : World) (b : Nat) (t p : Int) : Prop where
  c0 : W.cell? ⟨b, 0, none⟩ = some (.int .i64 t)
  c1 : W.cell? ⟨b, 1, none⟩ = some (.int .i64 p)
  lt : b < W.heap.size
theorem Two.kept {W W' : World} {b : Nat} {t p : Int} (h : Two W b t p) (hb : Below W.heap.size W W') : Two W' b t p := ⟨(hb.cell (p := ⟨b, 0, none⟩) h.lt).trans h.c0, (hb.cell (p := ⟨b, 1, none⟩) h.lt).trans h.c1, Nat.lt_of_lt_of_le h.lt hb.size⟩
theorem Two.new (W : World) (t p : Int) (T : TypeId) {b : Nat} (hb : W.heap.size = b) : Two (W.alloc (.cells #[.int .i64 t, .int .i64 p] T)) b t p := by
  subst hb
  exact ⟨by go_simp, by go_simp, by simp⟩
theorem below_newA (w : World) (X : Obj) : Below w.heap.size w (w.alloc X) := (Below.refl w.heap.size w).alloc (Nat.le_refl _) X
theorem eqMapQ (a b c d : Int) (w : World) : (Op.equalIn 10000 28 (.agg #[.int .i64 a, .int .i64 b]) (.agg #[.int .i64 c, .int .i64 d])).run Tryd.prog w = .ok (a == c && b == d) w := by
  rw [show (10000 : Nat) = 9999 + 1 from rfl, run_equalIn_struct _ _ _ _ _ (by kernel_rfl) (by kernel_rfl)]
  cases h1 : (a == c) <;> cases h2 : (b == d) <;> simp [go_sem, Op.eqFields, h1, h2]
theorem np_putA {Q : Exit → Act → World → Prop} {d : Option Tmp} {v : Value} : ∀ c (a : Act) (w : World), NoPanic Q (Exit.panic c) (a.put d v) w → NoPanic Q (Exit.panic c) a w := fun _ _ _ h => h
theorem neg_flag (t p : Int) : (neg t p).2.2 = goodB t p := by
  unfold neg; split
  · rename_i h; exact h.symm
  · rename_i h; simpa using h
theorem neg_on {t p : Int} (h : goodB t p = true) : neg t p = (t, -p, true) := by rw [neg, if_pos h]
theorem mtx_lenA (t p : Int) : (mtx t p).length = 4 := by simp [mtx, sgd_len]
theorem byt_sizeA (l : List UInt8) : (byt l).size = l.length := by simp [byt, ByteArray.size]

set_option maxRecDepth 100000 in
set_option maxHeartbeats 32000000 in
theorem fnOddParts_law (vc vm : Value) (w : World) (hc : BytesAny w vc) (hm : BytesAny w vm) (hw : Set3 w) :
    Calls Tryd.prog 3 #[vc, vm] w fun e w' => e = .returned (.bool true) ∧ Below w.heap.size w w' := by
  obtain ⟨a1, n1, k1, rfl, hx1⟩ := hc
  obtain ⟨a2, n2, k2, rfl, hx2⟩ := hm
  have HBG := Lib.hid (fun w => big_any a1 a2 n1 n2 k1 k2 w)
  cases hbg : bigB n1 n2
  case true =>
    rw [hbg] at HBG
    clear hx1 hx2 hbg
    go_enter Tryd.func3, Tryd.ntmps3
    go_wp2_with (go_at_call 4; refine (HBG.out _).mono ?_; rintro e w' ⟨rfl, rfl⟩)
    go_ret
    exact ⟨rfl, Below.refl _ _⟩
  rw [hbg] at HBG
  have hbn : ¬ (1048576 < (n1 : Int)) ∧ ¬ (1048576 - (n1 : Int) < (n2 : Int)) := by
    unfold bigB at hbg
    rw [Bool.or_eq_false_iff] at hbg
    exact ⟨of_decide_eq_false hbg.1, of_decide_eq_false hbg.2⟩
  have HC : Hid (BytesArg w (.slice a1 n1 k1)) := Lib.hid (BytesAny.small ⟨a1, n1, k1, rfl, hx1⟩ (by omega))
  have HM2 : Hid (BytesArg w (.slice a2 n2 k2)) := Lib.hid (BytesAny.small ⟨a2, n2, k2, rfl, hx2⟩ (by omega))
  have HW := Lib.hid hw
  clear hx1 hx2 hbg hbn hw
  go_enter Tryd.func3, Tryd.ntmps3
  go_wp2_with fail
  refine (HBG.out _).mono ?_
  rintro e w' ⟨rfl, rfl⟩
  clear HBG
  go_wp2_with fail
  refine (DrawOddPart_any _ _ HC.out).mono ?_
  rintro e w0 ⟨n, rfl, hb⟩
  have HB := Lib.hid hb
  clear hb HC
  have C1 := Lib.hid (fun W => iOddPart n W)
  have C2 := Lib.hid (fun W => sOddPart n W)
  have M1 := Lib.hid (fun (h : (odp n).2.2 = true) => odp_yes h)
  generalize odp n = d1 at C1 C2 M1
  obtain ⟨o1, m1, b1⟩ := d1
  dsimp only at C1 C2 M1
  go_wp2_with fail
  refine (C1.out _).mono ?_
  rintro e wz ⟨rfl, rfl⟩
  go_wp2_with fail
  refine (C2.out _).mono ?_
  rintro e wz ⟨rfl, rfl⟩
  clear C1 C2
  go_upto_if 97 with fail
  go_cut [12, 13] from 98 to 121 (fun s27 s28 wx => Hid (w0 = wx))
  case first =>
    clear HB HM2 HW
    cases b1
    · go_wp2_with fail
      go_meet
      case rel => exact Lib.hid rfl
    · obtain ⟨m, e1, hm40, hodd, hback, hn0, _, hn1, hn2⟩ := M1.out rfl
      subst e1
      have hot : (o1.tmod 2 == 0) = false := by rw [even_tmod]; simp [oddB]; omega
      have hmn : ¬ ((m : Int) < 0) := by omega
      have HBK := Lib.hid hback
      have HSM : Hid (∀ j, j ≤ m → -1000000000000 ≤ o1 * 2 ^ j ∧ o1 * 2 ^ j ≤ 1000000000000) := Lib.hid (fun j hj => back_small hback hj hn1 hn2)
      clear hback hodd hn0 M1
      go_wp2_with fail
      go_loop [12, 13] (fun bk k => ∃ j : Nat, j ≤ m ∧ bk = .int .i64 (o1 * 2 ^ j) ∧ k = .int .i64 (j : Int)) (fun _ k => m - (RowKit.intOf k).toNat)
      case atStart => exact ⟨0, Nat.zero_le _, by simp, rfl⟩
      case round =>
        obtain ⟨j, hj, rfl, rfl⟩ := hrel
        by_cases hlt : j < m
        · have h1 : (j : Int) < (m : Int) := by omega
          have h2 : (j : Int) < 64 := by omega
          obtain ⟨s1, s2⟩ := HSM.out j hj
          have HP : Hid (o1 * 2 ^ j * 2 = o1 * 2 ^ (j + 1)) := Lib.hid (by rw [Int.pow_succ, Int.mul_assoc])
          generalize o1 * 2 ^ j = B at *
          go_wp2_with fail
          exact ⟨⟨j + 1, hlt, by rw [← HP.out], by go_num⟩, by simp [RowKit.intOf]; omega⟩
        · obtain rfl : j = m := by omega
          have h1 : ¬ ((j : Int) < (j : Int)) := by omega
          rw [HBK.out]
          go_wp2_with fail
          go_meet
          case rel => exact Lib.hid rfl
  case rest =>
    have hwx := hcut.out
    subst hwx
    clear hcut M1
    go_wp2_with fail
    refine (DrawOddNext_any _ _ (HM2.out.kept HB.out (Nat.le_refl _))).mono ?_
    rintro e w1 ⟨t1, p1, x, rfl, hb⟩
    replace HB := Lib.hid (HB.out.trans (hb.mono HB.out.size))
    clear hb
    have H1 := Lib.hid (Two.new w1 t1 p1 28 rfl)
    replace HB := Lib.hid (HB.out.trans ((below_newA w1 (.cells #[.int .i64 t1, .int .i64 p1] 28)).mono HB.out.size))
    have H1s := H1.out.lt
    have C3 := Lib.hid (fun W => iOddNext t1 p1 x W)
    have C4 := Lib.hid (fun W => sOddNext t1 p1 x W)
    have M2 : Hid ((odn t1 p1 x).2.2 = true → (∀ W, Calls Tryd.prog 26 #[.agg #[.int .i64 t1, .int .i64 p1], .int .i64 x] W fun e w' => e = .returned (.tuple #[.int .i64 (aft t1 p1 (nx t1 p1) x 1).1, .bool true]) ∧ Below W.heap.size W w') ∧ (∀ W, Calls Tryd.prog 6 #[.int .i64 (aft t1 p1 (nx t1 p1) x 1).1] W fun e w' => e = .returned (.tuple #[.int .i64 (odn t1 p1 x).1, .int .i64 (odn t1 p1 x).2.1, .bool true]) ∧ W = w') ∧ (x.tmod 2 == 0) = false ∧ 1 ≤ (odn t1 p1 x).2.1) := Lib.hid (fun h => by
      obtain ⟨h1, h2, h3, h4⟩ := odn_yes h
      refine ⟨fun W => ?_, fun W => ?_, by rw [even_tmod, h2]; rfl, h4⟩
      · have c := iNextNumber t1 p1 x W
        rw [h1] at c
        exact c
      · have c := iOddPart (aft t1 p1 (nx t1 p1) x 1).1 W
        rw [h3, h] at c
        exact c)
    generalize odn t1 p1 x = d2 at C3 C4 M2
    obtain ⟨a1, k1, b2⟩ := d2
    generalize (aft t1 p1 (nx t1 p1) x 1).1 = nn at M2
    dsimp only at C3 C4 M2
    obtain ⟨h10, h11, _⟩ := H1.out
    go_wp2_with fail
    refine (C3.out _).mono ?_
    rintro e w2 ⟨rfl, hb⟩
    clear h10 h11
    replace H1 := Lib.hid (H1.out.kept hb)
    replace HB := Lib.hid (HB.out.trans (hb.mono HB.out.size))
    clear hb
    obtain ⟨h10, h11, _⟩ := H1.out
    go_wp2_with fail
    refine (C4.out _).mono ?_
    rintro e w3 ⟨rfl, hb⟩
    clear h10 h11
    replace H1 := Lib.hid (H1.out.kept hb)
    replace HB := Lib.hid (HB.out.trans (hb.mono HB.out.size))
    clear hb
    clear C3 C4
    go_wp2_with fail
    refine (DrawFirstBelow_any _ _ (HM2.out.kept HB.out (Nat.le_refl _))).mono ?_
    rintro e w4 ⟨t2, p2, y, rfl, hb⟩
    replace H1 := Lib.hid (H1.out.kept hb)
    replace HB := Lib.hid (HB.out.trans (hb.mono HB.out.size))
    clear hb
    have H2 := Lib.hid (Two.new w4 t2 p2 28 rfl)
    replace H1 := Lib.hid (H1.out.kept (below_newA w4 (.cells #[.int .i64 t2, .int .i64 p2] 28)))
    replace HB := Lib.hid (HB.out.trans ((below_newA w4 (.cells #[.int .i64 t2, .int .i64 p2] 28)).mono HB.out.size))
    have H2s := H2.out.lt
    have C5 := Lib.hid (fun W => iFirstBelow t2 p2 y W)
    have C6 := Lib.hid (fun W => sFirstBelow t2 p2 y W)
    have M3 : Hid ((fbl t2 p2 y).2 = true → ∃ v l b : Int, (∀ W, Calls Tryd.prog 27 #[.agg #[.int .i64 t2, .int .i64 p2], .int .i64 y, .int .i64 (fbl t2 p2 y).1] W fun e w' => e = .returned (.tuple #[.int .i64 v, .bool true]) ∧ Below W.heap.size W w') ∧ (∀ W, Calls Tryd.prog 28 #[.agg #[.int .i64 t2, .int .i64 p2], .int .i64 y, .int .i64 ((fbl t2 p2 y).1 - 1)] W fun e w' => e = .returned (.tuple #[.int .i64 l, .int .i64 b, .bool true]) ∧ Below W.heap.size W w') ∧ v < y ∧ y ≤ l ∧ 1 ≤ (fbl t2 p2 y).1 ∧ (fbl t2 p2 y).1 ≤ 1000) := Lib.hid (fun h => by
      obtain ⟨j, e1, e2, e3, e4, e5, e6, e7⟩ := fbl_yes h
      refine ⟨itr (nx t2 p2) j y, (pk false t2 p2 y ((j : Int) - 1)).1, (pk false t2 p2 y ((j : Int) - 1)).2.1, fun W => ?_, fun W => ?_, e5, e7, by omega, by omega⟩
      · have c := iNumberAfter t2 p2 y (fbl t2 p2 y).1 W
        rw [e1, e4] at c
        rw [e1]
        exact c
      · have c := iLowOf t2 p2 y ((j : Int) - 1) W
        rw [e6] at c
        rw [e1]
        exact c)
    generalize fbl t2 p2 y = d3 at C5 C6 M3
    obtain ⟨f1, b3⟩ := d3
    dsimp only at C5 C6 M3
    obtain ⟨h20, h21, _⟩ := H2.out
    go_wp2_with fail
    refine (C5.out _).mono ?_
    rintro e w5 ⟨rfl, hb⟩
    clear h20 h21
    replace H1 := Lib.hid (H1.out.kept hb)
    replace H2 := Lib.hid (H2.out.kept hb)
    replace HB := Lib.hid (HB.out.trans (hb.mono HB.out.size))
    clear hb
    obtain ⟨h20, h21, _⟩ := H2.out
    go_wp2_with fail
    refine (C6.out _).mono ?_
    rintro e w6 ⟨rfl, hb⟩
    clear h20 h21
    replace H1 := Lib.hid (H1.out.kept hb)
    replace H2 := Lib.hid (H2.out.kept hb)
    replace HB := Lib.hid (HB.out.trans (hb.mono HB.out.size))
    clear hb
    clear C5 C6
    go_wp2_with fail
    refine (DrawMapText_any _ _ (HM2.out.kept HB.out (Nat.le_refl _))).mono ?_
    rintro e w7 ⟨t3, p3, rfl, hb⟩
    replace H1 := Lib.hid (H1.out.kept hb)
    replace H2 := Lib.hid (H2.out.kept hb)
    replace HB := Lib.hid (HB.out.trans (hb.mono HB.out.size))
    clear hb
    have H3 := Lib.hid (Two.new w7 t3 p3 28 rfl)
    replace H1 := Lib.hid (H1.out.kept (below_newA w7 (.cells #[.int .i64 t3, .int .i64 p3] 28)))
    replace H2 := Lib.hid (H2.out.kept (below_newA w7 (.cells #[.int .i64 t3, .int .i64 p3] 28)))
    replace HB := Lib.hid (HB.out.trans ((below_newA w7 (.cells #[.int .i64 t3, .int .i64 p3] 28)).mono HB.out.size))
    have H3s := H3.out.lt
    have C7 := Lib.hid (fun W hT => iMapText t3 p3 W hT)
    have C8 := Lib.hid (fun W => sMapText t3 p3 W)
    have C9 := Lib.hid (fun W => iNegativeMap t3 p3 W)
    have C10 := Lib.hid (fun W => sNegativeMap t3 p3 W)
    have C15 := Lib.hid (fun W => isMap_any t3 p3 W)
    rw [neg_flag] at C9 C10
    have M5 : Hid (goodB t3 p3 = true → (∀ W, Set3 W → Calls Tryd.prog 20 #[.string (mpt t3 p3)] W fun e w' => e = .returned (.tuple #[.agg #[.int .i64 t3, .int .i64 p3], .bool true]) ∧ Below W.heap.size W w') ∧ (∀ W, Calls Tryd.prog 17 #[.agg #[.int .i64 (neg t3 p3).1, .int .i64 (neg t3 p3).2.1]] W fun e w' => e = .returned (.tuple #[.agg #[.int .i64 t3, .int .i64 p3], .bool true]) ∧ Below W.heap.size W w')) := Lib.hid (fun h => by
      refine ⟨fun W hW => ?_, fun W => ?_⟩
      · have e : mpt t3 p3 = byt (mtx t3 p3) := by rw [mpt, if_pos h]
        have c := iParseA (byt (mtx t3 p3)) (by have := mtx_lenA t3 p3; rw [byt_sizeA]; omega) W hW
        rw [rdm_text h, rdB_text h] at c
        rw [e]
        exact c
      · have c := iNegativeMap t3 (-p3) W
        rw [neg_on (neg_good h), Int.neg_neg] at c
        rw [neg_on h]
        exact c)
    generalize mpt t3 p3 = T at C7 C8 M5
    generalize goodB t3 p3 = b5 at C7 C8 C9 C10 C15 M5
    generalize neg t3 p3 = d5 at C9 C10 M5
    obtain ⟨n1, n2, b6⟩ := d5
    dsimp only at C9 C10 M5
    have hT := str_eq T
    obtain ⟨h30, h31, _⟩ := H3.out
    go_wp2_with fail
    refine (C7.out _ (HW.out.below HB.out).tab).mono ?_
    rintro e w8 ⟨rfl, hb⟩
    clear h30 h31
    replace H1 := Lib.hid (H1.out.kept hb)
    replace H2 := Lib.hid (H2.out.kept hb)
    replace H3 := Lib.hid (H3.out.kept hb)
    replace HB := Lib.hid (HB.out.trans (hb.mono HB.out.size))
    clear hb
    obtain ⟨h30, h31, _⟩ := H3.out
    go_wp2_with fail
    refine (C8.out _).mono ?_
    rintro e w9 ⟨rfl, hb⟩
    clear h30 h31
    replace H1 := Lib.hid (H1.out.kept hb)
    replace H2 := Lib.hid (H2.out.kept hb)
    replace H3 := Lib.hid (H3.out.kept hb)
    replace HB := Lib.hid (HB.out.trans (hb.mono HB.out.size))
    clear hb
    obtain ⟨h30, h31, _⟩ := H3.out
    go_wp2_with fail
    refine (C9.out _).mono ?_
    rintro e w10 ⟨rfl, hb⟩
    clear h30 h31
    replace H1 := Lib.hid (H1.out.kept hb)
    replace H2 := Lib.hid (H2.out.kept hb)
    replace H3 := Lib.hid (H3.out.kept hb)
    replace HB := Lib.hid (HB.out.trans (hb.mono HB.out.size))
    clear hb
    have H5 := Lib.hid (Two.new w10 n1 n2 28 rfl)
    replace H1 := Lib.hid (H1.out.kept (below_newA w10 (.cells #[.int .i64 n1, .int .i64 n2] 28)))
    replace H2 := Lib.hid (H2.out.kept (below_newA w10 (.cells #[.int .i64 n1, .int .i64 n2] 28)))
    replace H3 := Lib.hid (H3.out.kept (below_newA w10 (.cells #[.int .i64 n1, .int .i64 n2] 28)))
    replace HB := Lib.hid (HB.out.trans ((below_newA w10 (.cells #[.int .i64 n1, .int .i64 n2] 28)).mono HB.out.size))
    have H5s := H5.out.lt
    obtain ⟨h30, h31, _⟩ := H3.out
    go_wp2_with fail
    refine (C10.out _).mono ?_
    rintro e w11 ⟨rfl, hb⟩
    clear h30 h31
    replace H1 := Lib.hid (H1.out.kept hb)
    replace H2 := Lib.hid (H2.out.kept hb)
    replace H3 := Lib.hid (H3.out.kept hb)
    replace H5 := Lib.hid (H5.out.kept hb)
    replace HB := Lib.hid (HB.out.trans (hb.mono HB.out.size))
    clear hb
    have H6 := Lib.hid (Two.new w11 n1 n2 28 rfl)
    replace H1 := Lib.hid (H1.out.kept (below_newA w11 (.cells #[.int .i64 n1, .int .i64 n2] 28)))
    replace H2 := Lib.hid (H2.out.kept (below_newA w11 (.cells #[.int .i64 n1, .int .i64 n2] 28)))
    replace H3 := Lib.hid (H3.out.kept (below_newA w11 (.cells #[.int .i64 n1, .int .i64 n2] 28)))
    replace H5 := Lib.hid (H5.out.kept (below_newA w11 (.cells #[.int .i64 n1, .int .i64 n2] 28)))
    replace HB := Lib.hid (HB.out.trans ((below_newA w11 (.cells #[.int .i64 n1, .int .i64 n2] 28)).mono HB.out.size))
    have H6s := H6.out.lt
    clear C7 C8 C9 C10
    go_wp2_with fail
    refine (DrawParseMap_any _ _ (HM2.out.kept HB.out (Nat.le_refl _))).mono ?_
    rintro e w12 ⟨s, hs0, rfl, hb⟩
    replace H1 := Lib.hid (H1.out.kept hb)
    replace H2 := Lib.hid (H2.out.kept hb)
    replace H3 := Lib.hid (H3.out.kept hb)
    replace H5 := Lib.hid (H5.out.kept hb)
    replace H6 := Lib.hid (H6.out.kept hb)
    replace HB := Lib.hid (HB.out.trans (hb.mono HB.out.size))
    clear hb
    have hsz : s.size ≤ 1048576 := by omega
    have C11 := Lib.hid (fun W hW => iParseA s hsz W hW)
    have C12 := Lib.hid (fun W => sParseA s W)
    have M9 : Hid (rdB s = true → (∀ W, Tab W → Calls Tryd.prog 15 #[.agg #[.int .i64 (rdm s).1, .int .i64 (rdm s).2]] W fun e w' => e = .returned (.tuple #[.string s, .bool true]) ∧ Below W.heap.size W w')) := Lib.hid (fun h W hT => by
      obtain ⟨h1, h2⟩ := rdm_back (rdB_iff.1 h)
      have c := iMapText (rdm s).1 (rdm s).2 W hT
      rw [h1, mpt, if_pos h1, h2] at c
      exact c)
    clear hs0 hsz
    generalize rdm s = d9 at C11 C12 M9
    obtain ⟨r1, r2⟩ := d9
    generalize rdB s = b9 at C11 C12 M9
    dsimp only at C11 C12 M9
    go_wp2_with fail
    refine (C11.out _ (HW.out.below HB.out)).mono ?_
    rintro e w13 ⟨rfl, hb⟩
    replace H1 := Lib.hid (H1.out.kept hb)
    replace H2 := Lib.hid (H2.out.kept hb)
    replace H3 := Lib.hid (H3.out.kept hb)
    replace H5 := Lib.hid (H5.out.kept hb)
    replace H6 := Lib.hid (H6.out.kept hb)
    replace HB := Lib.hid (HB.out.trans (hb.mono HB.out.size))
    clear hb
    have H7 := Lib.hid (Two.new w13 r1 r2 28 rfl)
    replace H1 := Lib.hid (H1.out.kept (below_newA w13 (.cells #[.int .i64 r1, .int .i64 r2] 28)))
    replace H2 := Lib.hid (H2.out.kept (below_newA w13 (.cells #[.int .i64 r1, .int .i64 r2] 28)))
    replace H3 := Lib.hid (H3.out.kept (below_newA w13 (.cells #[.int .i64 r1, .int .i64 r2] 28)))
    replace H5 := Lib.hid (H5.out.kept (below_newA w13 (.cells #[.int .i64 r1, .int .i64 r2] 28)))
    replace H6 := Lib.hid (H6.out.kept (below_newA w13 (.cells #[.int .i64 r1, .int .i64 r2] 28)))
    replace HB := Lib.hid (HB.out.trans ((below_newA w13 (.cells #[.int .i64 r1, .int .i64 r2] 28)).mono HB.out.size))
    have H7s := H7.out.lt
    go_wp2_with fail
    refine (C12.out _).mono ?_
    rintro e w14 ⟨rfl, hb⟩
    replace H1 := Lib.hid (H1.out.kept hb)
    replace H2 := Lib.hid (H2.out.kept hb)
    replace H3 := Lib.hid (H3.out.kept hb)
    replace H5 := Lib.hid (H5.out.kept hb)
    replace H6 := Lib.hid (H6.out.kept hb)
    replace H7 := Lib.hid (H7.out.kept hb)
    replace HB := Lib.hid (HB.out.trans (hb.mono HB.out.size))
    clear hb
    have H8 := Lib.hid (Two.new w14 r1 r2 28 rfl)
    replace H1 := Lib.hid (H1.out.kept (below_newA w14 (.cells #[.int .i64 r1, .int .i64 r2] 28)))
    replace H2 := Lib.hid (H2.out.kept (below_newA w14 (.cells #[.int .i64 r1, .int .i64 r2] 28)))
    replace H3 := Lib.hid (H3.out.kept (below_newA w14 (.cells #[.int .i64 r1, .int .i64 r2] 28)))
    replace H5 := Lib.hid (H5.out.kept (below_newA w14 (.cells #[.int .i64 r1, .int .i64 r2] 28)))
    replace H6 := Lib.hid (H6.out.kept (below_newA w14 (.cells #[.int .i64 r1, .int .i64 r2] 28)))
    replace H7 := Lib.hid (H7.out.kept (below_newA w14 (.cells #[.int .i64 r1, .int .i64 r2] 28)))
    replace HB := Lib.hid (HB.out.trans ((below_newA w14 (.cells #[.int .i64 r1, .int .i64 r2] 28)).mono HB.out.size))
    have H8s := H8.out.lt
    clear C11 C12
    go_wp2_with fail
    refine (DrawStepsTo_any _ _ (HM2.out.kept HB.out (Nat.le_refl _))).mono ?_
    rintro e w15 ⟨t4, p4, z, g, rfl, hb⟩
    replace H1 := Lib.hid (H1.out.kept hb)
    replace H2 := Lib.hid (H2.out.kept hb)
    replace H3 := Lib.hid (H3.out.kept hb)
    replace H5 := Lib.hid (H5.out.kept hb)
    replace H6 := Lib.hid (H6.out.kept hb)
    replace H7 := Lib.hid (H7.out.kept hb)
    replace H8 := Lib.hid (H8.out.kept hb)
    replace HB := Lib.hid (HB.out.trans (hb.mono HB.out.size))
    clear hb
    have H4 := Lib.hid (Two.new w15 t4 p4 28 rfl)
    replace H1 := Lib.hid (H1.out.kept (below_newA w15 (.cells #[.int .i64 t4, .int .i64 p4] 28)))
    replace H2 := Lib.hid (H2.out.kept (below_newA w15 (.cells #[.int .i64 t4, .int .i64 p4] 28)))
    replace H3 := Lib.hid (H3.out.kept (below_newA w15 (.cells #[.int .i64 t4, .int .i64 p4] 28)))
    replace H5 := Lib.hid (H5.out.kept (below_newA w15 (.cells #[.int .i64 t4, .int .i64 p4] 28)))
    replace H6 := Lib.hid (H6.out.kept (below_newA w15 (.cells #[.int .i64 t4, .int .i64 p4] 28)))
    replace H7 := Lib.hid (H7.out.kept (below_newA w15 (.cells #[.int .i64 t4, .int .i64 p4] 28)))
    replace H8 := Lib.hid (H8.out.kept (below_newA w15 (.cells #[.int .i64 t4, .int .i64 p4] 28)))
    replace HB := Lib.hid (HB.out.trans ((below_newA w15 (.cells #[.int .i64 t4, .int .i64 p4] 28)).mono HB.out.size))
    have H4s := H4.out.lt
    have C13 := Lib.hid (fun W => iStepsTo t4 p4 z g W)
    have C14 := Lib.hid (fun W => sStepsTo t4 p4 z g W)
    have M11 : Hid ((sto t4 p4 z g).2 = true → (∀ W, Calls Tryd.prog 27 #[.agg #[.int .i64 t4, .int .i64 p4], .int .i64 z, .int .i64 (sto t4 p4 z g).1] W fun e w' => e = .returned (.tuple #[.int .i64 g, .bool true]) ∧ Below W.heap.size W w')) := Lib.hid (fun h W => by
      have c := iNumberAfter t4 p4 z (sto t4 p4 z g).1 W
      rw [sto_back h] at c
      exact c)
    generalize sto t4 p4 z g = d11 at C13 C14 M11
    obtain ⟨q1, b11⟩ := d11
    dsimp only at C13 C14 M11
    obtain ⟨h40, h41, _⟩ := H4.out
    go_wp2_with fail
    refine (C13.out _).mono ?_
    rintro e w16 ⟨rfl, hb⟩
    clear h40 h41
    replace H1 := Lib.hid (H1.out.kept hb)
    replace H2 := Lib.hid (H2.out.kept hb)
    replace H3 := Lib.hid (H3.out.kept hb)
    replace H5 := Lib.hid (H5.out.kept hb)
    replace H6 := Lib.hid (H6.out.kept hb)
    replace H7 := Lib.hid (H7.out.kept hb)
    replace H8 := Lib.hid (H8.out.kept hb)
    replace H4 := Lib.hid (H4.out.kept hb)
    replace HB := Lib.hid (HB.out.trans (hb.mono HB.out.size))
    clear hb
    obtain ⟨h40, h41, _⟩ := H4.out
    go_wp2_with fail
    refine (C14.out _).mono ?_
    rintro e w17 ⟨rfl, hb⟩
    clear h40 h41
    replace H1 := Lib.hid (H1.out.kept hb)
    replace H2 := Lib.hid (H2.out.kept hb)
    replace H3 := Lib.hid (H3.out.kept hb)
    replace H5 := Lib.hid (H5.out.kept hb)
    replace H6 := Lib.hid (H6.out.kept hb)
    replace H7 := Lib.hid (H7.out.kept hb)
    replace H8 := Lib.hid (H8.out.kept hb)
    replace H4 := Lib.hid (H4.out.kept hb)
    replace HB := Lib.hid (HB.out.trans (hb.mono HB.out.size))
    clear hb
    clear C13 C14 HM2
    have heqm := eqMapQ
    go_upto_region 33 with fail
    obtain ⟨h30, h31, _⟩ := H3.out
    obtain ⟨h50, h51, _⟩ := H5.out
    obtain ⟨h60, h61, _⟩ := H6.out
    obtain ⟨h70, h71, _⟩ := H7.out
    obtain ⟨h80, h81, _⟩ := H8.out
    generalize w7.heap.size = g3 at *
    generalize w10.heap.size = g5 at *
    generalize w11.heap.size = g6 at *
    generalize w13.heap.size = g7 at *
    generalize w14.heap.size = g8 at *
    simp only [List.append_eq, List.cons_append, List.nil_append]
    go_cut [285] from 212 to 285 (fun s269 wx => s269 = .bool false ∧ Hid (Below w17.heap.size w17 wx))
    case first =>
      clear H1 H2 H4 HW HB M2 M3 M5 M9 M11
      go_wp2_with fail
      refine (C15.out _).mono ?_
      rintro e wq ⟨rfl, hb⟩
      have HBQ := Lib.hid hb
      clear hb
      go_wp2_with fail
      go_meet
      case rel => exact ⟨rfl, HBQ⟩
    case rest =>
      obtain ⟨rfl, hb⟩ := hcut
      have hb := hb.out
      clear H6 H8
      replace H1 := Lib.hid (H1.out.kept hb)
      replace H2 := Lib.hid (H2.out.kept hb)
      replace H3 := Lib.hid (H3.out.kept hb)
      replace H4 := Lib.hid (H4.out.kept hb)
      replace H5 := Lib.hid (H5.out.kept hb)
      replace H7 := Lib.hid (H7.out.kept hb)
      replace HB := Lib.hid (HB.out.trans (hb.mono HB.out.size))
      clear hb
      clear h30 h31 h50 h51 h60 h61 h70 h71 h80 h81 C15
      go_upto_if 286 with fail
      go_cut [49, 50, 51, 52, 53] from 287 to 323 (fun s49 s50 s51 s52 s53 wx => Hid (Below wc.heap.size wc wx))
      case first =>
        cases b2
        · go_wp2_with fail
          go_meet
          case rel => exact Lib.hid (Below.refl _ _)
        · obtain ⟨hn, ho, he, hk⟩ := M2.out rfl
          have hk1 : ¬ k1 < 1 := by omega
          obtain ⟨h10, h11, _⟩ := H1.out
          go_wp2_with fail
          refine (hn _).mono ?_
          rintro e wq ⟨rfl, hb⟩
          go_wp2_with fail
          refine (ho _).mono ?_
          rintro e wr ⟨rfl, rfl⟩
          go_wp2_with fail
          go_meet
          case rel => exact Lib.hid hb
      case rest =>
        have hb := hcut.out
        clear hcut
        replace H1 := Lib.hid (H1.out.kept hb)
        replace H2 := Lib.hid (H2.out.kept hb)
        replace H3 := Lib.hid (H3.out.kept hb)
        replace H4 := Lib.hid (H4.out.kept hb)
        replace H5 := Lib.hid (H5.out.kept hb)
        replace H7 := Lib.hid (H7.out.kept hb)
        replace HB := Lib.hid (HB.out.trans (hb.mono HB.out.size))
        clear hb
        go_upto_if 324 with fail
        go_cut [54, 55, 56, 57, 58] from 325 to 356 (fun s54 s55 s56 s57 s58 wx => Hid (Below wc.heap.size wc wx))
        case first =>
          cases b3
          · go_wp2_with fail
            go_meet
            case rel => exact Lib.hid (Below.refl _ _)
          · obtain ⟨v, l, b, hn, ho, hv, hl, hf1, hf2⟩ := M3.out rfl
            have hv1 : ¬ y ≤ v := by omega
            have hl1 : ¬ l < y := by omega
            obtain ⟨h20, h21, _⟩ := H2.out
            go_wp2_with fail
            refine (hn _).mono ?_
            rintro e wq ⟨rfl, hb⟩
            clear h20 h21
            replace H2 := Lib.hid (H2.out.kept hb)
            obtain ⟨h20, h21, _⟩ := H2.out
            go_wp2_with fail
            refine (ho _).mono ?_
            rintro e wr ⟨rfl, hb2⟩
            go_wp2_with fail
            go_meet
            case rel => exact Lib.hid (hb.trans (hb2.mono hb.size))
        case rest =>
          have hb := hcut.out
          clear hcut
          replace H1 := Lib.hid (H1.out.kept hb)
          replace H2 := Lib.hid (H2.out.kept hb)
          replace H3 := Lib.hid (H3.out.kept hb)
          replace H4 := Lib.hid (H4.out.kept hb)
          replace H5 := Lib.hid (H5.out.kept hb)
          replace H7 := Lib.hid (H7.out.kept hb)
          replace HB := Lib.hid (HB.out.trans (hb.mono HB.out.size))
          clear hb
          go_upto_if 357 with fail
          go_cut [59, 60, 61, 62] from 358 to 383 (fun s59 s60 s61 s62 wx => Hid (Below wc.heap.size wc wx))
          case first =>
            cases b5
            · go_wp2_with fail
              go_meet
              case rel => exact Lib.hid (Below.refl _ _)
            · obtain ⟨hn, ho⟩ := M5.out rfl
              go_wp2_with fail
              refine (hn _ (HW.out.below HB.out)).mono ?_
              rintro e wq ⟨rfl, hb⟩
              replace H5 := Lib.hid ((H5.out.kept hb).kept (below_newA wq (.cells #[.int .i64 t3, .int .i64 p3] 28)))
              replace H3 := Lib.hid ((H3.out.kept hb).kept (below_newA wq (.cells #[.int .i64 t3, .int .i64 p3] 28)))
              have HA := Lib.hid (Two.new wq t3 p3 28 rfl)
              replace hb := hb.trans ((below_newA wq (.cells #[.int .i64 t3, .int .i64 p3] 28)).mono hb.size)
              have hb := Lib.hid hb
              obtain ⟨h50, h51, _⟩ := H5.out
              go_wp2_with fail
              refine (ho _).mono ?_
              rintro e wr ⟨rfl, hb2⟩
              clear h50 h51
              replace H3 := Lib.hid ((H3.out.kept hb2).kept (below_newA wr (.cells #[.int .i64 t3, .int .i64 p3] 28)))
              replace HA := Lib.hid ((HA.out.kept hb2).kept (below_newA wr (.cells #[.int .i64 t3, .int .i64 p3] 28)))
              have HC := Lib.hid (Two.new wr t3 p3 28 rfl)
              replace hb2 := hb2.trans ((below_newA wr (.cells #[.int .i64 t3, .int .i64 p3] 28)).mono hb2.size)
              replace hb := Lib.hid (hb.out.trans (hb2.mono hb.out.size))
              clear hb2
              obtain ⟨h30, h31, _⟩ := H3.out
              obtain ⟨ha0, ha1, _⟩ := HA.out
              obtain ⟨hc0, hc1, _⟩ := HC.out
              go_wp2_with fail
              go_meet
              case rel => exact hb
          case rest =>
            have hb := hcut.out
            clear hcut
            replace H1 := Lib.hid (H1.out.kept hb)
            replace H2 := Lib.hid (H2.out.kept hb)
            replace H3 := Lib.hid (H3.out.kept hb)
            replace H4 := Lib.hid (H4.out.kept hb)
            replace H5 := Lib.hid (H5.out.kept hb)
            replace H7 := Lib.hid (H7.out.kept hb)
            replace HB := Lib.hid (HB.out.trans (hb.mono HB.out.size))
            clear hb
            go_upto_if 384 with fail
            go_cut [63, 64] from 385 to 396 (fun s63 s64 wx => Hid (Below wc.heap.size wc wx))
            case first =>
              cases b9
              · go_wp2_with fail
                go_meet
                case rel => exact Lib.hid (Below.refl _ _)
              · have hn := M9.out rfl
                obtain ⟨h70, h71, _⟩ := H7.out
                go_wp2_with fail
                refine (hn _ (HW.out.below HB.out).tab).mono ?_
                rintro e wq ⟨rfl, hb⟩
                go_wp2_with fail
                go_meet
                case rel => exact Lib.hid hb
            case rest =>
              have hb := hcut.out
              clear hcut
              replace H1 := Lib.hid (H1.out.kept hb)
              replace H2 := Lib.hid (H2.out.kept hb)
              replace H3 := Lib.hid (H3.out.kept hb)
              replace H4 := Lib.hid (H4.out.kept hb)
              replace H5 := Lib.hid (H5.out.kept hb)
              replace H7 := Lib.hid (H7.out.kept hb)
              replace HB := Lib.hid (HB.out.trans (hb.mono HB.out.size))
              clear hb
              cases b11
              · go_wp2_with fail
                go_ret
                exact ⟨rfl, HB.out⟩
              · have hn := M11.out rfl
                obtain ⟨h40, h41, _⟩ := H4.out
                go_wp2_with fail
                refine (hn _).mono ?_
                rintro e wq ⟨rfl, hb⟩
                go_wp2_with fail
                go_ret
                exact ⟨rfl, HB.out.trans (hb.mono HB.out.size)⟩
end Go.Proofs.YtmocbkpfoddffaaDoor
