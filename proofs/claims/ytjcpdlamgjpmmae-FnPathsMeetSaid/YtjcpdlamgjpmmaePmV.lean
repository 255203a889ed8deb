/-
  THE WALK OF THE LAW 'PathsMeet' ON BYTES.
-/
import Derived.Test.YtjcpdlamgjpmmaePmM
import Derived.Test.YtjcpdlamgjpmmaePeak5
import Derived.Test.YtjcpdlamgjpmmaeRecP5
import Derived.Test.YtjcpdlamgjpmmaeVr
import Derived.Test.YtjcpdlamgjpmmaeDraw
import Derived.Deep.CutRange
namespace Go.Proofs.Ytjcpdlamgjpmmae
open Go.RowKit
set_option linter.unusedVariables false

set_option maxRecDepth 100000 in
set_option maxHeartbeats 32000000 in
theorem fnPathsMeet_law (vc vm : Value) (w : World) (hc : BytesAny w vc) (hm : BytesAny w vm) :
    Calls Try.prog 3 #[vc, vm] w fun e w' => e = .returned (.bool true) ∧ Below w.heap.size w w' := by
  obtain ⟨a1, n1, k1, rfl, hx1⟩ := hc
  obtain ⟨a2, n2, k2, rfl, hx2⟩ := hm
  have HBG := Lib.hid (fun w => big_any a1 a2 n1 n2 k1 k2 w)
  cases hbg : bigB n1 n2
  case true =>
    rw [hbg] at HBG
    clear hx1 hx2 hbg
    go_enter Try.func3, Try.ntmps3
    go_wp2_with (go_at_call 4; refine (HBG.out _).mono ?_; rintro e w' ⟨rfl, rfl⟩)
    go_ret
    exact ⟨rfl, Below.refl _ _⟩
  rw [hbg] at HBG
  have hbn : ¬ (1048576 < (n1 : Int)) ∧ ¬ (1048576 - (n1 : Int) < (n2 : Int)) := by
    unfold bigB at hbg
    rw [Bool.or_eq_false_iff] at hbg
    exact ⟨of_decide_eq_false hbg.1, of_decide_eq_false hbg.2⟩
  have HC : Hid (BytesArg w (.slice a1 n1 k1)) := Lib.hid (BytesAny.small ⟨a1, n1, k1, rfl, hx1⟩ (by omega))
  have HM2 : Hid (BytesArg w (.slice a2 n2 k2)) := Lib.hid (BytesAny.small ⟨a2, n2, k2, rfl, hx2⟩ (by omega))
  clear hx1 hx2 hbg hbn
  go_enter Try.func3, Try.ntmps3
  go_wp2_with fail
  refine (HBG.out _).mono ?_
  rintro e w' ⟨rfl, rfl⟩
  clear HBG
  go_wp2_with fail
  refine (DrawPathsMerge_any _ _ HC.out).mono ?_
  rintro e v0 ⟨t, p, a, b, rfl, hb⟩
  have KP0 := Lib.hid (KpB.add (T := 25) (t := t) (p := p) (show KpB w v0 [] from ⟨by simp, hb⟩))
  clear hb HC
  cases ho : mgA t p a b with
  | none =>
    have hpm := pmA_none ho
    have hms := msA_none ho
    clear ho
    have C1 : Hid (∀ w, Calls Try.prog 6 #[.agg #[.int .i64 t, .int .i64 p], .int .i64 a, .int .i64 b] w fun e w' => e = .returned (.tuple #[.int .i64 0, .bool false]) ∧ Below w.heap.size w w') := Lib.hid (fun w => by have := iPathsMerge t p a b w; unfold Ret2 at this; rw [hpm] at this; exact this)
    have C2 : Hid (∀ w, Calls Try.prog 7 #[.agg #[.int .i64 t, .int .i64 p], .int .i64 a, .int .i64 b] w fun e w' => e = .returned (.tuple #[.int .i64 0, .bool false]) ∧ Below w.heap.size w w') := Lib.hid (fun w => by have := sPathsMerge t p a b w; unfold Ret2 at this; rw [hpm] at this; exact this)
    have C3 : Hid (∀ w, Calls Try.prog 8 #[.agg #[.int .i64 t, .int .i64 p], .int .i64 a, .int .i64 b] w fun e w' => e = .returned (.tuple #[.int .i64 0, .int .i64 0, .bool false]) ∧ Below w.heap.size w w') := Lib.hid (fun w => by have := iMergeSteps t p a b w; unfold Ret3 at this; rw [hms] at this; exact this)
    have C4 : Hid (∀ w, Calls Try.prog 9 #[.agg #[.int .i64 t, .int .i64 p], .int .i64 a, .int .i64 b] w fun e w' => e = .returned (.tuple #[.int .i64 0, .int .i64 0, .bool false]) ∧ Below w.heap.size w w') := Lib.hid (fun w => by have := sMergeSteps t p a b w; unfold Ret3 at this; rw [hms] at this; exact this)
    clear hpm hms
    go_wp2_with fail
    refine (C1.out _).mono ?_
    rintro e w1 ⟨rfl, hb⟩
    have K1 := Lib.hid (KP0.out.next hb)
    clear hb KP0
    obtain ⟨x0, x1⟩ := K1.out.get (b := v0.heap.size) (t := t) (p := p) (by simp)
    go_wp2_with fail
    refine (C2.out _).mono ?_
    rintro e w2 ⟨rfl, hb⟩
    have K2 := Lib.hid (K1.out.next hb)
    clear hb K1 x0 x1
    obtain ⟨x0, x1⟩ := K2.out.get (b := v0.heap.size) (t := t) (p := p) (by simp)
    go_wp2_with fail
    refine (C3.out _).mono ?_
    rintro e w3 ⟨rfl, hb⟩
    have K3 := Lib.hid (K2.out.next hb)
    clear hb K2 x0 x1
    obtain ⟨x0, x1⟩ := K3.out.get (b := v0.heap.size) (t := t) (p := p) (by simp)
    go_wp2_with fail
    refine (C4.out _).mono ?_
    rintro e w4 ⟨rfl, hb⟩
    have K4 := Lib.hid (K3.out.next hb)
    clear hb K3 x0 x1
    go_wp2_with fail
    refine (DrawPeakRecords_any _ _ (HM2.out.kept K4.out.2 (Nat.le_refl _))).mono ?_
    rintro e u1 ⟨t1, p1, k, rfl, hb⟩
    have K4b := Lib.hid (KpB.add (T := 25) (t := t1) (p := p1) (K4.out.next hb))
    clear hb K4
    have C5 := Lib.hid (fun w => iPeakRecords t1 p1 k w)
    have C6 := Lib.hid (fun w => sPeakRecords t1 p1 k w)
    have HR := Lib.hid (peaks_rise t1 p1 k)
    have hlen : (rcL (tabA peakN t1 p1 k)).length ≤ 300 := Nat.le_trans (rcL_len _) (tabA_len _ _ _ _)
    obtain ⟨rs, hrs⟩ : ∃ rs, rcL (tabA peakN t1 p1 k) = rs := ⟨_, rfl⟩
    obtain ⟨ask, hask⟩ : ∃ ask, askL t1 p1 k = ask := ⟨_, rfl⟩
    rw [hrs] at C5 C6 HR hlen
    rw [hask] at C5 C6
    clear hrs hask
    have HLEN := Lib.hid hlen
    clear hlen
    go_wp2_with fail
    refine (C5.out _).mono ?_
    rintro e w5 ⟨v1, rfl, hp1, hb⟩
    have K5 := Lib.hid (K4b.out.next hb)
    have P1 := Lib.hid hp1
    clear hb K4b hp1
    obtain ⟨x0, x1⟩ := K5.out.get (b := u1.heap.size) (t := t1) (p := p1) (by simp)
    go_wp2_with fail
    refine (C6.out _).mono ?_
    rintro e w6 ⟨v2, rfl, hp2, hb⟩
    have K6 := Lib.hid (K5.out.next hb)
    have P1n := Lib.hid (P1.out.kept hb)
    have HV := Lib.hid (vRows_any rs v1 v2 _ _ _ HLEN.out P1n.out hp2)
    obtain ⟨a1, cap1, rfl, hx⟩ := P1n.out.at
    obtain ⟨L, hL⟩ : ∃ L, rs.length = L := ⟨_, rfl⟩
    rw [hL] at hx ⊢
    have HX := Lib.hid hx
    have hL2 : (L : Int) ≤ 300 := by have := HLEN.out; omega
    have HL := Lib.hid hL
    rw [hL] at HV HR HLEN
    clear hb K5 x0 x1 hp2 P1 P1n hx hL C1 C2 C3 C4 C5 C6
    go_wp2_with (go_at_call 13; refine HV.out.mono ?_; rintro e w7 ⟨rfl, hb7⟩; have HB7 := Lib.hid hb7; clear hb7)
    go_loopw [137] (fun i wr => ∃ m : Nat, m ≤ L ∧ i = .int .i64 m ∧ Below w6.heap.size w6 wr) (fun i _ => L - (RowKit.intOf i).toNat)
    case atStart => exact ⟨0, Nat.zero_le _, rfl, HB7.out⟩
    case round =>
      obtain ⟨m, hm, rfl, hbr⟩ := hrel
      have HBR := Lib.hid hbr
      by_cases hlt : m < L
      · obtain ⟨g5, b5, rfl, _, hg5, q0, _, hbl, hpa⟩ := HX.out m hlt
        have q : wr.cell? ⟨g5, m, none⟩ = some (.slice (some ⟨b5, 0, none⟩) 2 2) := (hbr.cell (p := ⟨g5, m, none⟩) hg5).trans q0
        have c0 : wr.cell? ⟨b5, 0, none⟩ = some (.int .i64 (rs.getD m (0, 0)).1) := (hbr.cell (p := ⟨b5, 0, none⟩) hbl).trans hpa.1
        have c1 : wr.cell? ⟨b5, 1, none⟩ = some (.int .i64 (rs.getD m (0, 0)).2) := (hbr.cell (p := ⟨b5, 1, none⟩) hbl).trans hpa.2.1
        have hxy := HR.out.1 m hlt
        have hlt2 : (m : Int) < (L : Int) := by omega
        by_cases hm0 : m = 0
        · subst hm0
          obtain ⟨x, hx⟩ : ∃ x, (rs.getD 0 (0, 0)).1 = x := ⟨_, rfl⟩
          obtain ⟨y, hy⟩ : ∃ y, (rs.getD 0 (0, 0)).2 = y := ⟨_, rfl⟩
          rw [hx] at c0 hxy
          rw [hy] at c1 hxy
          have hxy2 : decide (y < x) = false := by simp; omega
          clear hx hy hbr hpa q0 hxy
          go_wp2_with fail
          go_quiet (fail)
          go_wp2
          exact ⟨⟨0 + 1, hlt, by go_num, by first | exact below_drewN HBR.out _ | exact HBR.out⟩, by simp [RowKit.intOf]; omega⟩
        · obtain ⟨m', rfl⟩ : ∃ m', m = m' + 1 := ⟨m - 1, by omega⟩
          obtain ⟨g6, b6, eg, _, hg6, q0', _, hbl', hpa'⟩ := HX.out m' (by omega)
          obtain rfl : g5 = g6 := by injection eg with e1; injection e1
          have q' : wr.cell? ⟨g5, m', none⟩ = some (.slice (some ⟨b6, 0, none⟩) 2 2) := (hbr.cell (p := ⟨g5, m', none⟩) hg5).trans q0'
          have c0' : wr.cell? ⟨b6, 0, none⟩ = some (.int .i64 (rs.getD m' (0, 0)).1) := (hbr.cell (p := ⟨b6, 0, none⟩) hbl').trans hpa'.1
          have c1' : wr.cell? ⟨b6, 1, none⟩ = some (.int .i64 (rs.getD m' (0, 0)).2) := (hbr.cell (p := ⟨b6, 1, none⟩) hbl').trans hpa'.2.1
          have hri := HR.out.2 m' hlt
          obtain ⟨x, hx⟩ : ∃ x, (rs.getD (m' + 1) (0, 0)).1 = x := ⟨_, rfl⟩
          obtain ⟨y, hy⟩ : ∃ y, (rs.getD (m' + 1) (0, 0)).2 = y := ⟨_, rfl⟩
          obtain ⟨x', hx'⟩ : ∃ x', (rs.getD m' (0, 0)).1 = x' := ⟨_, rfl⟩
          obtain ⟨y', hy'⟩ : ∃ y', (rs.getD m' (0, 0)).2 = y' := ⟨_, rfl⟩
          rw [hx] at c0 hxy hri
          rw [hy] at c1 hxy hri
          rw [hx'] at c0' hri
          rw [hy'] at c1' hri
          have hxy2 : decide (y < x) = false := by simp; omega
          have hr1 : decide (x ≤ x') = false := by simp; omega
          have hr2 : decide (y ≤ y') = false := by simp; omega
          have hm1 : (0 : Int) < (m' : Int) + 1 := by omega
          have hm2 : (m' : Int) < (L : Int) := by omega
          clear hx hy hx' hy' hbr hpa hpa' q0 q0' hxy hri eg
          go_wp2_with fail
          go_quiet (fail)
          go_wp2
          exact ⟨⟨m' + 1 + 1, hlt, by go_num, by first | exact below_drewN HBR.out _ | exact HBR.out⟩, by simp [RowKit.intOf]; omega⟩
      · obtain rfl : m = L := by omega
        have hlt2 : ¬ ((m : Int) < (m : Int)) := by omega
        have KR := Lib.hid (K6.out.next hbr)
        clear hbr HX HV HR K6 HB7 HBR
        go_wp2_with fail
        go_ret
        exact ⟨rfl, KR.out.2⟩
  | some r =>
    obtain ⟨i, j⟩ := r
    obtain ⟨n, HM⟩ := meet_of ho
    clear ho
    have hpm := HM.pm
    have hms := HM.ms
    have C1 : Hid (∀ w, Calls Try.prog 6 #[.agg #[.int .i64 t, .int .i64 p], .int .i64 a, .int .i64 b] w fun e w' => e = .returned (.tuple #[.int .i64 n, .bool true]) ∧ Below w.heap.size w w') := Lib.hid (fun w => by have := iPathsMerge t p a b w; unfold Ret2 at this; rw [hpm] at this; exact this)
    have C2 : Hid (∀ w, Calls Try.prog 7 #[.agg #[.int .i64 t, .int .i64 p], .int .i64 a, .int .i64 b] w fun e w' => e = .returned (.tuple #[.int .i64 n, .bool true]) ∧ Below w.heap.size w w') := Lib.hid (fun w => by have := sPathsMerge t p a b w; unfold Ret2 at this; rw [hpm] at this; exact this)
    have C3 : Hid (∀ w, Calls Try.prog 8 #[.agg #[.int .i64 t, .int .i64 p], .int .i64 a, .int .i64 b] w fun e w' => e = .returned (.tuple #[.int .i64 (i : Int), .int .i64 (j : Int), .bool true]) ∧ Below w.heap.size w w') := Lib.hid (fun w => by have := iMergeSteps t p a b w; unfold Ret3 at this; rw [hms] at this; exact this)
    have C4 : Hid (∀ w, Calls Try.prog 9 #[.agg #[.int .i64 t, .int .i64 p], .int .i64 a, .int .i64 b] w fun e w' => e = .returned (.tuple #[.int .i64 (i : Int), .int .i64 (j : Int), .bool true]) ∧ Below w.heap.size w w') := Lib.hid (fun w => by have := sMergeSteps t p a b w; unfold Ret3 at this; rw [hms] at this; exact this)
    clear hpm hms
    have HAA := Lib.hid HM.at_a
    have HAB := Lib.hid HM.at_b
    have C7 : Hid (∀ w, Calls Try.prog 14 #[.agg #[.int .i64 t, .int .i64 p], .int .i64 a, .int .i64 (i : Int)] w fun e w' => e = .returned (.tuple #[.int .i64 n, .bool true]) ∧ Below w.heap.size w w') := Lib.hid (fun w => by have := iNumberAfter t p a (i : Int) w; rw [HAA.out] at this; exact this)
    have C8 : Hid (∀ w, Calls Try.prog 14 #[.agg #[.int .i64 t, .int .i64 p], .int .i64 b, .int .i64 (j : Int)] w fun e w' => e = .returned (.tuple #[.int .i64 n, .bool true]) ∧ Below w.heap.size w w') := Lib.hid (fun w => by have := iNumberAfter t p b (j : Int) w; rw [HAB.out] at this; exact this)
    obtain ⟨k', i', hback, hs1, hs2⟩ := HM.back
    have hpb := pmA_some hback
    obtain ⟨g, hg⟩ : ∃ g, itr (nx t p) k' b = g := ⟨_, rfl⟩
    rw [hg] at hs1 hs2 hpb
    have C9 : Hid (∀ w, Calls Try.prog 6 #[.agg #[.int .i64 t, .int .i64 p], .int .i64 b, .int .i64 a] w fun e w' => e = .returned (.tuple #[.int .i64 g, .bool true]) ∧ Below w.heap.size w w') := Lib.hid (fun w => by have := iPathsMerge t p b a w; unfold Ret2 at this; rw [hpb] at this; exact this)
    obtain ⟨st, hst⟩ : ∃ st, (sto t p a g).1 = st := ⟨_, rfl⟩
    rw [hst] at hs2
    have C10 : Hid (∀ w, Calls Try.prog 17 #[.agg #[.int .i64 t, .int .i64 p], .int .i64 a, .int .i64 g] w fun e w' => e = .returned (.tuple #[.int .i64 st, .bool true]) ∧ Below w.heap.size w w') := Lib.hid (fun w => by have := iStepsTo t p a g w; rw [hst, hs1] at this; exact this)
    have hst0 : ¬ (st < 0) := by omega
    have hoa := HM.okA
    have hob := HM.okB
    have hcy := HM.cyc
    have CA := Lib.hid (fun w => iCycleOf t p a w)
    have CB := Lib.hid (fun w => iCycleOf t p b w)
    rw [hoa] at CA
    rw [hob, ← hcy] at CB
    have HCL := Lib.hid (cyL_len t p a)
    obtain ⟨cs, hcs⟩ : ∃ cs, cyL t p a = cs := ⟨_, rfl⟩
    rw [hcs] at CA CB HCL
    have HSAME := Lib.hid HM.same
    have HFIRST := Lib.hid HM.first
    have HNA := Lib.hid (fun a k w => iNumberAfter t p a k w)
    obtain ⟨hsi, hsj⟩ := HM.small
    have hi1 : (i : Int) ≤ 1000 := by omega
    have hj1 : (j : Int) ≤ 1000 := by omega
    clear HM hback hs1 hs2 hpb hg hst hoa hob hcy hcs hsi hsj HAA HAB
    go_wp2_with fail
    refine (C1.out _).mono ?_
    rintro e w1 ⟨rfl, hb⟩
    have K1 := Lib.hid (KP0.out.next hb)
    clear hb KP0
    obtain ⟨x0, x1⟩ := K1.out.get (b := v0.heap.size) (t := t) (p := p) (by simp)
    go_wp2_with fail
    refine (C2.out _).mono ?_
    rintro e w2 ⟨rfl, hb⟩
    have K2 := Lib.hid (K1.out.next hb)
    clear hb K1 x0 x1
    obtain ⟨x0, x1⟩ := K2.out.get (b := v0.heap.size) (t := t) (p := p) (by simp)
    go_wp2_with fail
    refine (C3.out _).mono ?_
    rintro e w3 ⟨rfl, hb⟩
    have K3 := Lib.hid (K2.out.next hb)
    clear hb K2 x0 x1
    obtain ⟨x0, x1⟩ := K3.out.get (b := v0.heap.size) (t := t) (p := p) (by simp)
    go_wp2_with fail
    refine (C4.out _).mono ?_
    rintro e w4 ⟨rfl, hb⟩
    have K4 := Lib.hid (K3.out.next hb)
    clear hb K3 x0 x1
    go_wp2_with fail
    refine (DrawPeakRecords_any _ _ (HM2.out.kept K4.out.2 (Nat.le_refl _))).mono ?_
    rintro e u1 ⟨t1, p1, k, rfl, hb⟩
    have K4b := Lib.hid (KpB.add (T := 25) (t := t1) (p := p1) (K4.out.next hb))
    clear hb K4
    have C5 := Lib.hid (fun w => iPeakRecords t1 p1 k w)
    have C6 := Lib.hid (fun w => sPeakRecords t1 p1 k w)
    have HR := Lib.hid (peaks_rise t1 p1 k)
    have hlen : (rcL (tabA peakN t1 p1 k)).length ≤ 300 := Nat.le_trans (rcL_len _) (tabA_len _ _ _ _)
    obtain ⟨rs, hrs⟩ : ∃ rs, rcL (tabA peakN t1 p1 k) = rs := ⟨_, rfl⟩
    obtain ⟨ask, hask⟩ : ∃ ask, askL t1 p1 k = ask := ⟨_, rfl⟩
    rw [hrs] at C5 C6 HR hlen
    rw [hask] at C5 C6
    clear hrs hask
    have HLEN := Lib.hid hlen
    clear hlen
    go_wp2_with fail
    refine (C5.out _).mono ?_
    rintro e w5 ⟨v1, rfl, hp1, hb⟩
    have K5 := Lib.hid (K4b.out.next hb)
    have P1 := Lib.hid hp1
    clear hb K4b hp1
    obtain ⟨x0, x1⟩ := K5.out.get (b := u1.heap.size) (t := t1) (p := p1) (by simp)
    go_wp2_with fail
    refine (C6.out _).mono ?_
    rintro e w6 ⟨v2, rfl, hp2, hb⟩
    have K6 := Lib.hid (K5.out.next hb)
    have P1n := Lib.hid (P1.out.kept hb)
    have HV := Lib.hid (vRows_any rs v1 v2 _ _ _ HLEN.out P1n.out hp2)
    obtain ⟨a1, cap1, rfl, hx⟩ := P1n.out.at
    obtain ⟨L, hL⟩ : ∃ L, rs.length = L := ⟨_, rfl⟩
    rw [hL] at hx ⊢
    have HX := Lib.hid hx
    have hL2 : (L : Int) ≤ 300 := by have := HLEN.out; omega
    have HL := Lib.hid hL
    rw [hL] at HV HR HLEN
    clear hb K5 x0 x1 hp2 P1 P1n hx hL C1 C2 C3 C4 C5 C6
    go_wp2_with (go_at_call 13; refine HV.out.mono ?_; rintro e w7 ⟨rfl, hb7⟩; have HB7 := Lib.hid hb7; clear hb7)
    go_loopw [137] (fun i wr => ∃ m : Nat, m ≤ L ∧ i = .int .i64 m ∧ Below w6.heap.size w6 wr) (fun i _ => L - (RowKit.intOf i).toNat)
    case atStart => exact ⟨0, Nat.zero_le _, rfl, HB7.out⟩
    case round =>
      obtain ⟨m, hm, rfl, hbr⟩ := hrel
      have HBR := Lib.hid hbr
      by_cases hlt : m < L
      · obtain ⟨g5, b5, rfl, _, hg5, q0, _, hbl, hpa⟩ := HX.out m hlt
        have q : wr.cell? ⟨g5, m, none⟩ = some (.slice (some ⟨b5, 0, none⟩) 2 2) := (hbr.cell (p := ⟨g5, m, none⟩) hg5).trans q0
        have c0 : wr.cell? ⟨b5, 0, none⟩ = some (.int .i64 (rs.getD m (0, 0)).1) := (hbr.cell (p := ⟨b5, 0, none⟩) hbl).trans hpa.1
        have c1 : wr.cell? ⟨b5, 1, none⟩ = some (.int .i64 (rs.getD m (0, 0)).2) := (hbr.cell (p := ⟨b5, 1, none⟩) hbl).trans hpa.2.1
        have hxy := HR.out.1 m hlt
        have hlt2 : (m : Int) < (L : Int) := by omega
        by_cases hm0 : m = 0
        · subst hm0
          obtain ⟨x, hx⟩ : ∃ x, (rs.getD 0 (0, 0)).1 = x := ⟨_, rfl⟩
          obtain ⟨y, hy⟩ : ∃ y, (rs.getD 0 (0, 0)).2 = y := ⟨_, rfl⟩
          rw [hx] at c0 hxy
          rw [hy] at c1 hxy
          have hxy2 : decide (y < x) = false := by simp; omega
          clear hx hy hbr hpa q0 hxy C7 C8 C9 C10 CA CB HCL HSAME HFIRST HNA
          go_wp2_with fail
          go_quiet (fail)
          go_wp2
          exact ⟨⟨0 + 1, hlt, by go_num, by first | exact below_drewN HBR.out _ | exact HBR.out⟩, by simp [RowKit.intOf]; omega⟩
        · obtain ⟨m', rfl⟩ : ∃ m', m = m' + 1 := ⟨m - 1, by omega⟩
          obtain ⟨g6, b6, eg, _, hg6, q0', _, hbl', hpa'⟩ := HX.out m' (by omega)
          obtain rfl : g5 = g6 := by injection eg with e1; injection e1
          have q' : wr.cell? ⟨g5, m', none⟩ = some (.slice (some ⟨b6, 0, none⟩) 2 2) := (hbr.cell (p := ⟨g5, m', none⟩) hg5).trans q0'
          have c0' : wr.cell? ⟨b6, 0, none⟩ = some (.int .i64 (rs.getD m' (0, 0)).1) := (hbr.cell (p := ⟨b6, 0, none⟩) hbl').trans hpa'.1
          have c1' : wr.cell? ⟨b6, 1, none⟩ = some (.int .i64 (rs.getD m' (0, 0)).2) := (hbr.cell (p := ⟨b6, 1, none⟩) hbl').trans hpa'.2.1
          have hri := HR.out.2 m' hlt
          obtain ⟨x, hx⟩ : ∃ x, (rs.getD (m' + 1) (0, 0)).1 = x := ⟨_, rfl⟩
          obtain ⟨y, hy⟩ : ∃ y, (rs.getD (m' + 1) (0, 0)).2 = y := ⟨_, rfl⟩
          obtain ⟨x', hx'⟩ : ∃ x', (rs.getD m' (0, 0)).1 = x' := ⟨_, rfl⟩
          obtain ⟨y', hy'⟩ : ∃ y', (rs.getD m' (0, 0)).2 = y' := ⟨_, rfl⟩
          rw [hx] at c0 hxy hri
          rw [hy] at c1 hxy hri
          rw [hx'] at c0' hri
          rw [hy'] at c1' hri
          have hxy2 : decide (y < x) = false := by simp; omega
          have hr1 : decide (x ≤ x') = false := by simp; omega
          have hr2 : decide (y ≤ y') = false := by simp; omega
          have hm1 : (0 : Int) < (m' : Int) + 1 := by omega
          have hm2 : (m' : Int) < (L : Int) := by omega
          clear hx hy hx' hy' hbr hpa hpa' q0 q0' hxy hri eg C7 C8 C9 C10 CA CB HCL HSAME HFIRST HNA
          go_wp2_with fail
          go_quiet (fail)
          go_wp2
          exact ⟨⟨m' + 1 + 1, hlt, by go_num, by first | exact below_drewN HBR.out _ | exact HBR.out⟩, by simp [RowKit.intOf]; omega⟩
      · obtain rfl : m = L := by omega
        have hlt2 : ¬ ((m : Int) < (m : Int)) := by omega
        have KR := Lib.hid (K6.out.next hbr)
        clear hbr HX HV HR K6 HB7 HBR
        obtain ⟨x0, x1⟩ := KR.out.get (b := v0.heap.size) (t := t) (p := p) (by simp)
        go_wp2_with fail
        refine (C7.out _).mono ?_
        rintro e w10 ⟨rfl, hb⟩
        have K10 := Lib.hid (KR.out.next hb)
        clear hb KR x0 x1
        obtain ⟨x0, x1⟩ := K10.out.get (b := v0.heap.size) (t := t) (p := p) (by simp)
        go_wp2_with fail
        refine (C8.out _).mono ?_
        rintro e w11 ⟨rfl, hb⟩
        have K11 := Lib.hid (K10.out.next hb)
        clear hb K10 x0 x1
        obtain ⟨x0, x1⟩ := K11.out.get (b := v0.heap.size) (t := t) (p := p) (by simp)
        go_wp2_with fail
        refine (C9.out _).mono ?_
        rintro e w12 ⟨rfl, hb⟩
        have K12 := Lib.hid (K11.out.next hb)
        clear hb K11 x0 x1
        obtain ⟨x0, x1⟩ := K12.out.get (b := v0.heap.size) (t := t) (p := p) (by simp)
        go_wp2_with fail
        refine (CA.out _).mono ?_
        rintro e w14 ⟨vc, rfl, hrow, hb⟩
        have K14 := Lib.hid (K12.out.next hb)
        have Lvc : Hid (IntsIn w14 vc cs) := Lib.hid hrow.isIn
        clear hb K12 x0 x1 hrow
        obtain ⟨x0, x1⟩ := K14.out.get (b := v0.heap.size) (t := t) (p := p) (by simp)
        go_wp2_with fail
        refine (CB.out _).mono ?_
        rintro e w15 ⟨vd, rfl, hrow, hb⟩
        have K15 := Lib.hid (K14.out.next hb)
        have Lvcn := Lib.hid (Lvc.out.kept hb)
        clear Lvc
        have Lvc := Lvcn
        clear Lvcn
        have Lvd : Hid (IntsIn w15 vd cs) := Lib.hid hrow.isIn
        clear hb K14 x0 x1 hrow
        have HVS := Lib.hid (vSame_any cs vc vd _ (by have := HCL.out; omega) Lvc.out Lvd.out)
        obtain ⟨ac, cc, rfl, -⟩ := Lvc.out
        obtain ⟨ad, cd, rfl, -⟩ := Lvd.out
        clear Lvc Lvd C7 C8 C9 CA CB
        by_cases hab : a = b
        · obtain ⟨hi0, hj0⟩ := HSAME.out hab
          subst hi0 hj0
          have hab2 : (a == b) = true := by simpa using hab
          clear hab HSAME HFIRST HNA
          go_wp2_with (go_at_call 16; refine HVS.out.mono ?_; rintro e w20 ⟨rfl, hb20⟩; have K20 := Lib.hid (K15.out.next hb20); obtain ⟨x0, x1⟩ := K20.out.get (b := v0.heap.size) (t := t) (p := p) (by simp); clear hb20)
          refine (C10.out _).mono ?_
          rintro e w21 ⟨rfl, hb⟩
          have K21 := Lib.hid (K20.out.next hb)
          clear hb K20 x0 x1
          go_wp2_with fail
          go_ret
          exact ⟨rfl, K21.out.2⟩
        · have hab2 : (a == b) = false := by simpa using hab
          clear hab HSAME
          by_cases hij : 0 < i ∧ 0 < j
          · obtain ⟨e1, f1, he, hf, hef⟩ := HFIRST.out hij.1 hij.2
            have C11 : Hid (∀ w, Calls Try.prog 14 #[.agg #[.int .i64 t, .int .i64 p], .int .i64 a, .int .i64 ((i : Int) - 1)] w fun e w' => e = .returned (.tuple #[.int .i64 e1, .bool true]) ∧ Below w.heap.size w w') := Lib.hid (fun w => by have := HNA.out a ((i : Int) - 1) w; rw [he] at this; exact this)
            have C12 : Hid (∀ w, Calls Try.prog 14 #[.agg #[.int .i64 t, .int .i64 p], .int .i64 b, .int .i64 ((j : Int) - 1)] w fun e w' => e = .returned (.tuple #[.int .i64 f1, .bool true]) ∧ Below w.heap.size w w') := Lib.hid (fun w => by have := HNA.out b ((j : Int) - 1) w; rw [hf] at this; exact this)
            have hef2 : (e1 == f1) = false := by simpa using hef
            have hi2 : 0 < (i : Int) := by omega
            have hj2 : 0 < (j : Int) := by omega
            clear he hf hef hij HFIRST HNA
            go_wp2_with (go_at_call 16; refine HVS.out.mono ?_; rintro e w20 ⟨rfl, hb20⟩; have K20 := Lib.hid (K15.out.next hb20); obtain ⟨x0, x1⟩ := K20.out.get (b := v0.heap.size) (t := t) (p := p) (by simp); clear hb20)
            refine (C10.out _).mono ?_
            rintro e w21 ⟨rfl, hb⟩
            have K21 := Lib.hid (K20.out.next hb)
            clear hb K20 x0 x1
            obtain ⟨x0, x1⟩ := K21.out.get (b := v0.heap.size) (t := t) (p := p) (by simp)
            go_wp2_with fail
            refine (C11.out _).mono ?_
            rintro e w22 ⟨rfl, hb⟩
            have K22 := Lib.hid (K21.out.next hb)
            clear hb K21 x0 x1
            obtain ⟨x0, x1⟩ := K22.out.get (b := v0.heap.size) (t := t) (p := p) (by simp)
            go_wp2_with fail
            refine (C12.out _).mono ?_
            rintro e w23 ⟨rfl, hb⟩
            have K23 := Lib.hid (K22.out.next hb)
            clear hb K22 x0 x1
            go_wp2_with fail
            go_ret
            exact ⟨rfl, K23.out.2⟩
          · clear HFIRST HNA
            by_cases hi2 : 0 < (i : Int)
            · have hj2 : ¬ (0 < (j : Int)) := by omega
              clear hij
              go_wp2_with (go_at_call 16; refine HVS.out.mono ?_; rintro e w20 ⟨rfl, hb20⟩; have K20 := Lib.hid (K15.out.next hb20); obtain ⟨x0, x1⟩ := K20.out.get (b := v0.heap.size) (t := t) (p := p) (by simp); clear hb20)
              refine (C10.out _).mono ?_
              rintro e w21 ⟨rfl, hb⟩
              have K21 := Lib.hid (K20.out.next hb)
              clear hb K20 x0 x1
              go_wp2_with fail
              go_ret
              exact ⟨rfl, K21.out.2⟩
            · clear hij
              go_wp2_with (go_at_call 16; refine HVS.out.mono ?_; rintro e w20 ⟨rfl, hb20⟩; have K20 := Lib.hid (K15.out.next hb20); obtain ⟨x0, x1⟩ := K20.out.get (b := v0.heap.size) (t := t) (p := p) (by simp); clear hb20)
              refine (C10.out _).mono ?_
              rintro e w21 ⟨rfl, hb⟩
              have K21 := Lib.hid (K20.out.next hb)
              clear hb K20 x0 x1
              go_wp2_with fail
              go_ret
              exact ⟨rfl, K21.out.2⟩
end Go.Proofs.Ytjcpdlamgjpmmae
