/-
  THE WALK OF THE LAW 'PathsMeetOfAll': where the paths do not merge.
-/
import Derived.Test.YtjcpdlamgjpmmafPmM
import Derived.Test.YtjcpdlamgjpmmafMergeF
import Derived.Test.YtjcpdlamgjpmmafRecP5
import Derived.Test.YtjcpdlamgjpmmafVr
import Derived.Deep.CutRange
namespace Go.Proofs.Ytjcpdlamgjpmmaf
open Go.RowKit
set_option linter.unusedVariables false

/-- Two maps in blocks, one behind the other. -/
structure Box2 (W : World) (B : Nat) (t p t1 p1 : Int) : Prop where
  c0 : W.cell? ⟨B, 0, none⟩ = some (.int .i64 t)
  c1 : W.cell? ⟨B, 1, none⟩ = some (.int .i64 p)
  d0 : W.cell? ⟨B + 1, 0, none⟩ = some (.int .i64 t1)
  d1 : W.cell? ⟨B + 1, 1, none⟩ = some (.int .i64 p1)
  lt : B + 1 < W.heap.size
theorem Box2.kept {W W' : World} {B : Nat} {t p t1 p1 : Int} (h : Box2 W B t p t1 p1) (hb : Below W.heap.size W W') : Box2 W' B t p t1 p1 := by
  have l := h.lt
  exact ⟨kept_cell hb (by omega) h.c0, kept_cell hb (by omega) h.c1, kept_cell hb (by omega) h.d0, kept_cell hb (by omega) h.d1, Nat.lt_of_lt_of_le l hb.size⟩
def Kp (w W : World) (t p t1 p1 : Int) : Prop := Box2 W w.heap.size t p t1 p1 ∧ Below w.heap.size w W
theorem Kp.next {w W W' : World} {t p t1 p1 : Int} (h : Kp w W t p t1 p1) (hb : Below W.heap.size W W') : Kp w W' t p t1 p1 := ⟨h.1.kept hb, h.2.trans (hb.mono h.2.size)⟩

set_option maxRecDepth 100000 in
set_option maxHeartbeats 16000000 in
theorem pm_none (t p a b t1 p1 k : Int) (w : World) (ho : mgA t p a b = none) :
    Calls Try.prog 3 #[.agg #[.int .i64 t, .int .i64 p], .int .i64 a, .int .i64 b, .agg #[.int .i64 t1, .int .i64 p1], .int .i64 k] w fun e w' => e = .returned (.bool true) ∧ Below w.heap.size w w' := by
  have hpm := pmA_none ho
  have hms := msA_none ho
  clear ho
  have C1 : Hid (∀ w, Calls Try.prog 4 #[.agg #[.int .i64 t, .int .i64 p], .int .i64 a, .int .i64 b] w fun e w' => e = .returned (.tuple #[.int .i64 0, .bool false]) ∧ Below w.heap.size w w') := Lib.hid (fun w => by have := iPathsMerge t p a b w; unfold Ret2 at this; rw [hpm] at this; exact this)
  have C2 : Hid (∀ w, Calls Try.prog 5 #[.agg #[.int .i64 t, .int .i64 p], .int .i64 a, .int .i64 b] w fun e w' => e = .returned (.tuple #[.int .i64 0, .bool false]) ∧ Below w.heap.size w w') := Lib.hid (fun w => by have := sPathsMerge t p a b w; unfold Ret2 at this; rw [hpm] at this; exact this)
  have C3 : Hid (∀ w, Calls Try.prog 6 #[.agg #[.int .i64 t, .int .i64 p], .int .i64 a, .int .i64 b] w fun e w' => e = .returned (.tuple #[.int .i64 0, .int .i64 0, .bool false]) ∧ Below w.heap.size w w') := Lib.hid (fun w => by have := iMergeSteps t p a b w; unfold Ret3 at this; rw [hms] at this; exact this)
  have C4 : Hid (∀ w, Calls Try.prog 7 #[.agg #[.int .i64 t, .int .i64 p], .int .i64 a, .int .i64 b] w fun e w' => e = .returned (.tuple #[.int .i64 0, .int .i64 0, .bool false]) ∧ Below w.heap.size w w') := Lib.hid (fun w => by have := sMergeSteps t p a b w; unfold Ret3 at this; rw [hms] at this; exact this)
  clear hpm hms
  have C5 := Lib.hid (fun w => iPeakRecords t1 p1 k w)
  have C6 := Lib.hid (fun w => sPeakRecords t1 p1 k w)
  have HR := Lib.hid (peaks_rise t1 p1 k)
  have hlen : (rcL (tabA peakN t1 p1 k)).length ≤ 300 := Nat.le_trans (rcL_len _) (tabA_len _ _ _ _)
  obtain ⟨rs, hrs⟩ : ∃ rs, rcL (tabA peakN t1 p1 k) = rs := ⟨_, rfl⟩
  obtain ⟨ask, hask⟩ : ∃ ask, askL t1 p1 k = ask := ⟨_, rfl⟩
  rw [hrs] at C5 C6 HR hlen
  rw [hask] at C5 C6
  clear hrs hask
  have HLEN := Lib.hid hlen
  have K0 : Hid (Kp w ((w.alloc (.cells #[.int .i64 t, .int .i64 p] 23)).alloc (.cells #[.int .i64 t1, .int .i64 p1] 23)) t p t1 p1) := Lib.hid ⟨by refine ⟨?_, ?_, ?_, ?_, by simp⟩ <;> go_simp, ((Below.refl _ w).alloc (Nat.le_refl _) _).alloc (by simp) _⟩
  clear hlen
  go_enter Try.func3, Try.ntmps3
  go_wp2_with fail
  refine (C1.out _).mono ?_
  rintro e w1 ⟨rfl, hb⟩
  have K1 := Lib.hid (K0.out.next hb)
  clear hb K0
  obtain ⟨x0, x1⟩ : w1.cell? ⟨w.heap.size, 0, none⟩ = some (.int .i64 t) ∧ w1.cell? ⟨w.heap.size, 1, none⟩ = some (.int .i64 p) := ⟨K1.out.1.c0, K1.out.1.c1⟩
  go_wp2_with fail
  refine (C2.out _).mono ?_
  rintro e w2 ⟨rfl, hb⟩
  have K2 := Lib.hid (K1.out.next hb)
  clear hb K1 x0 x1
  obtain ⟨x0, x1⟩ : w2.cell? ⟨w.heap.size, 0, none⟩ = some (.int .i64 t) ∧ w2.cell? ⟨w.heap.size, 1, none⟩ = some (.int .i64 p) := ⟨K2.out.1.c0, K2.out.1.c1⟩
  go_wp2_with fail
  refine (C3.out _).mono ?_
  rintro e w3 ⟨rfl, hb⟩
  have K3 := Lib.hid (K2.out.next hb)
  clear hb K2 x0 x1
  obtain ⟨x0, x1⟩ : w3.cell? ⟨w.heap.size, 0, none⟩ = some (.int .i64 t) ∧ w3.cell? ⟨w.heap.size, 1, none⟩ = some (.int .i64 p) := ⟨K3.out.1.c0, K3.out.1.c1⟩
  go_wp2_with fail
  refine (C4.out _).mono ?_
  rintro e w4 ⟨rfl, hb⟩
  have K4 := Lib.hid (K3.out.next hb)
  clear hb K3 x0 x1
  obtain ⟨x0, x1⟩ : w4.cell? ⟨w.heap.size + 1, 0, none⟩ = some (.int .i64 t1) ∧ w4.cell? ⟨w.heap.size + 1, 1, none⟩ = some (.int .i64 p1) := ⟨K4.out.1.d0, K4.out.1.d1⟩
  go_wp2_with fail
  refine (C5.out _).mono ?_
  rintro e w5 ⟨v1, rfl, hp1, hb⟩
  have K5 := Lib.hid (K4.out.next hb)
  have P1 := Lib.hid hp1
  clear hb K4 x0 x1 hp1
  obtain ⟨x0, x1⟩ : w5.cell? ⟨w.heap.size + 1, 0, none⟩ = some (.int .i64 t1) ∧ w5.cell? ⟨w.heap.size + 1, 1, none⟩ = some (.int .i64 p1) := ⟨K5.out.1.d0, K5.out.1.d1⟩
  go_wp2_with fail
  refine (C6.out _).mono ?_
  rintro e w6 ⟨v2, rfl, hp2, hb⟩
  have K6 := Lib.hid (K5.out.next hb)
  have P1n := Lib.hid (P1.out.kept hb)
  have HV := Lib.hid (vRows_any rs v1 v2 _ _ _ HLEN.out P1n.out hp2)
  obtain ⟨a1, cap1, rfl, hx⟩ := P1n.out.at
  obtain ⟨L, hL⟩ : ∃ L, rs.length = L := ⟨_, rfl⟩
  rw [hL] at hx ⊢
  have HX := Lib.hid hx
  have hL2 : (L : Int) ≤ 300 := by have := HLEN.out; omega
  have HL := Lib.hid hL
  rw [hL] at HV HR HLEN
  clear hb K5 x0 x1 hp2 P1 P1n hx hL C1 C2 C3 C4 C5 C6
  go_wp2_with (go_at_call 10; refine HV.out.mono ?_; rintro e w7 ⟨rfl, hb7⟩; have HB7 := Lib.hid hb7; clear hb7)
  go_loopw [124] (fun i wr => ∃ m : Nat, m ≤ L ∧ i = .int .i64 m ∧ Below w6.heap.size w6 wr) (fun i _ => L - (RowKit.intOf i).toNat)
  case atStart => exact ⟨0, Nat.zero_le _, rfl, HB7.out⟩
  case round =>
    obtain ⟨m, hm, rfl, hbr⟩ := hrel
    have HBR := Lib.hid hbr
    by_cases hlt : m < L
    · obtain ⟨g5, b5, rfl, _, hg5, q0, _, hbl, hpa⟩ := HX.out m hlt
      have q : wr.cell? ⟨g5, m, none⟩ = some (.slice (some ⟨b5, 0, none⟩) 2 2) := (hbr.cell (p := ⟨g5, m, none⟩) hg5).trans q0
      have c0 : wr.cell? ⟨b5, 0, none⟩ = some (.int .i64 (rs.getD m (0, 0)).1) := (hbr.cell (p := ⟨b5, 0, none⟩) hbl).trans hpa.1
      have c1 : wr.cell? ⟨b5, 1, none⟩ = some (.int .i64 (rs.getD m (0, 0)).2) := (hbr.cell (p := ⟨b5, 1, none⟩) hbl).trans hpa.2.1
      have hxy := HR.out.1 m hlt
      have hlt2 : (m : Int) < (L : Int) := by omega
      by_cases hm0 : m = 0
      · subst hm0
        obtain ⟨x, hx⟩ : ∃ x, (rs.getD 0 (0, 0)).1 = x := ⟨_, rfl⟩
        obtain ⟨y, hy⟩ : ∃ y, (rs.getD 0 (0, 0)).2 = y := ⟨_, rfl⟩
        rw [hx] at c0 hxy
        rw [hy] at c1 hxy
        have hxy2 : decide (y < x) = false := by simp; omega
        clear hx hy hbr hpa q0 hxy
        go_wp2_with fail
        go_quiet (fail)
        go_wp2
        exact ⟨⟨0 + 1, hlt, by go_num, by first | exact below_drewN HBR.out _ | exact HBR.out⟩, by simp [RowKit.intOf]; omega⟩
      · obtain ⟨m', rfl⟩ : ∃ m', m = m' + 1 := ⟨m - 1, by omega⟩
        obtain ⟨g6, b6, eg, _, hg6, q0', _, hbl', hpa'⟩ := HX.out m' (by omega)
        obtain rfl : g5 = g6 := by injection eg with e1; injection e1
        have q' : wr.cell? ⟨g5, m', none⟩ = some (.slice (some ⟨b6, 0, none⟩) 2 2) := (hbr.cell (p := ⟨g5, m', none⟩) hg5).trans q0'
        have c0' : wr.cell? ⟨b6, 0, none⟩ = some (.int .i64 (rs.getD m' (0, 0)).1) := (hbr.cell (p := ⟨b6, 0, none⟩) hbl').trans hpa'.1
        have c1' : wr.cell? ⟨b6, 1, none⟩ = some (.int .i64 (rs.getD m' (0, 0)).2) := (hbr.cell (p := ⟨b6, 1, none⟩) hbl').trans hpa'.2.1
        have hri := HR.out.2 m' hlt
        obtain ⟨x, hx⟩ : ∃ x, (rs.getD (m' + 1) (0, 0)).1 = x := ⟨_, rfl⟩
        obtain ⟨y, hy⟩ : ∃ y, (rs.getD (m' + 1) (0, 0)).2 = y := ⟨_, rfl⟩
        obtain ⟨x', hx'⟩ : ∃ x', (rs.getD m' (0, 0)).1 = x' := ⟨_, rfl⟩
        obtain ⟨y', hy'⟩ : ∃ y', (rs.getD m' (0, 0)).2 = y' := ⟨_, rfl⟩
        rw [hx] at c0 hxy hri
        rw [hy] at c1 hxy hri
        rw [hx'] at c0' hri
        rw [hy'] at c1' hri
        have hxy2 : decide (y < x) = false := by simp; omega
        have hr1 : decide (x ≤ x') = false := by simp; omega
        have hr2 : decide (y ≤ y') = false := by simp; omega
        have hm1 : (0 : Int) < (m' : Int) + 1 := by omega
        have hm2 : (m' : Int) < (L : Int) := by omega
        clear hx hy hx' hy' hbr hpa hpa' q0 q0' hxy hri eg
        go_wp2_with fail
        go_quiet (fail)
        go_wp2
        exact ⟨⟨m' + 1 + 1, hlt, by go_num, by first | exact below_drewN HBR.out _ | exact HBR.out⟩, by simp [RowKit.intOf]; omega⟩
    · obtain rfl : m = L := by omega
      have hlt2 : ¬ ((m : Int) < (m : Int)) := by omega
      have KR := Lib.hid (K6.out.next hbr)
      clear hbr HX HV HR K6 HB7 HBR
      go_wp2_with fail
      go_ret
      exact ⟨rfl, KR.out.2⟩
end Go.Proofs.Ytjcpdlamgjpmmaf
