/-
  THE WALKS OF THE LAWS 'FirstDesk', 'IsDesk'.
-/
import Derived.Test.YtkikmmnmppikpaaDkJ
import Derived.Test.YtkikmmnmppikpaaArgDk
import Derived.Deep.RegionWith
namespace Go.Proofs.Ytkikmmnmppikpaa
open Go.RowKit
set_option linter.unusedVariables false

set_option maxHeartbeats 8000000 in
theorem fnExactFirstDesk_law (w : World) :
    Calls Try.prog 3 #[] w fun e w' => e = .returned (.bool true) ∧ Below w.heap.size w w' := by
  go_enter Try.func3, Try.ntmps3
  go_wp2_with fail
  refine (sFirstDesk _).mono ?_
  rintro e w1 ⟨u1, rfl, m1, hb1⟩
  have HB := Lib.hid hb1
  have HW0 : Hid (w.heap.size ≤ w1.heap.size) := Lib.hid hb1.size
  have M0 := Lib.hid m1
  obtain ⟨_, _, rfl, _, a1, c1, a2, c2, e, _⟩ := m1
  cases e
  clear hb1
  have B0 := Lib.hid (Bd.new w1 3 1 7 (.slice a1 [3].length c1) (.slice a2 [2].length c2) 28)
  have hb := below_alloc w1 (.cells #[.int .i64 3, .int .i64 1, .int .i64 7, .slice a1 [3].length c1, .slice a2 [2].length c2] 28)
  replace HB := Lib.hid (HB.out.trans (hb.mono HB.out.size))
  replace M0 := Lib.hid (M0.out.kept hb)
  clear hb
  simp only [List.length_singleton] at B0 M0 HB ⊢
  go_wp2_with fail
  refine (iFirstDesk _).mono ?_
  rintro e w2 ⟨u2, rfl, m2, hb2⟩
  have hs2 := hb2.size
  simp only [World.size_alloc] at hs2 m2
  replace HB := Lib.hid (HB.out.trans (hb2.mono HB.out.size))
  replace M0 := Lib.hid (M0.out.kept hb2)
  replace B0 := Lib.hid (B0.out.kept hb2)
  have M1 := Lib.hid m2
  obtain ⟨_, _, rfl, _, a3, c3, a4, c4, e, _⟩ := m2
  cases e
  clear hb2
  have B1 := Lib.hid (Bd.new w2 3 1 7 (.slice a3 [3].length c3) (.slice a4 [2].length c4) 28)
  have hb := below_alloc w2 (.cells #[.int .i64 3, .int .i64 1, .int .i64 7, .slice a3 [3].length c3, .slice a4 [2].length c4] 28)
  replace HB := Lib.hid (HB.out.trans (hb.mono HB.out.size))
  replace M0 := Lib.hid (M0.out.kept hb)
  replace M1 := Lib.hid (M1.out.kept hb)
  replace B0 := Lib.hid (B0.out.kept hb)
  clear hb
  simp only [List.length_singleton] at B1 M0 M1 B0 HB ⊢
  obtain ⟨⟨p0, p1, p2, p3, p4⟩, p5⟩ := B0.out
  go_wp2_with fail
  refine (eqDesk_any 3 1 7 [3] [2] _ _ _ (by simp) (by simp) M1.out.isIn M0.out.isIn).mono ?_
  rintro e w3 ⟨rfl, hb3⟩
  clear p0 p1 p2 p3 p4 p5
  have hs3 := hb3.size
  simp only [World.size_alloc] at hs3
  replace HB := Lib.hid (HB.out.trans (hb3.mono HB.out.size))
  replace M0 := Lib.hid (M0.out.kept hb3)
  replace M1 := Lib.hid (M1.out.kept hb3)
  replace B0 := Lib.hid (B0.out.kept hb3)
  replace B1 := Lib.hid (B1.out.kept hb3)
  clear hb3
  obtain ⟨⟨p0, p1, p2, p3, p4⟩, p5⟩ := B1.out
  go_wp2_with fail
  refine (markDesk_any 3 1 7 [3] [2] _ _ _ _ (by simp) (by simp) M1.out).mono ?_
  rintro e w4 ⟨rfl, t4, m4⟩
  have hs4 := t4.size
  have HN : Hid (w1.heap.size + 1 ≤ w2.heap.size ∧ w2.heap.size + 1 ≤ w3.heap.size ∧ w3.heap.size ≤ w4.heap.size) := Lib.hid ⟨hs2, hs3, hs4⟩
  replace HB : Hid (Below w.heap.size w w4) := Lib.hid (HB.out.trans (t4.below (by have := HW0.out; omega) HB.out.size))
  replace M0 := Lib.hid (M0.out.touch t4 (Or.inl (by omega)))
  replace B0 := Lib.hid (B0.out.touch t4 (Or.inl (by omega)))
  replace B1 := Lib.hid (B1.out.touch t4 (Or.inr (by omega)))
  replace M1 := Lib.hid m4
  clear t4 m4 p0 p1 p2 p3 p4 p5 hs2 hs3 hs4
  simp only [List.length_singleton] at M1 ⊢
  obtain ⟨⟨p0, p1, p2, p3, p4⟩, p5⟩ := B1.out
  go_wp2_with fail
  refine (heldDesk_any 1 1 3 1 7 _ _ _ _ (by simp) (by simp) M1.out).mono ?_
  rintro e w5 ⟨rfl, hb5⟩
  clear p0 p1 p2 p3 p4 p5
  have hs5 := hb5.size
  replace HB := Lib.hid (HB.out.trans (hb5.mono HB.out.size))
  replace M0 := Lib.hid (M0.out.kept hb5)
  replace M1 := Lib.hid (M1.out.kept hb5)
  replace B0 := Lib.hid (B0.out.kept hb5)
  replace B1 := Lib.hid (B1.out.kept hb5)
  clear hb5
  go_wp2_with fail
  refine (iFirstDesk _).mono ?_
  rintro e w6 ⟨u6, rfl, m6, hb6⟩
  have hs6 := hb6.size
  replace HB := Lib.hid (HB.out.trans (hb6.mono HB.out.size))
  replace M0 := Lib.hid (M0.out.kept hb6)
  replace M1 := Lib.hid (M1.out.kept hb6)
  replace B0 := Lib.hid (B0.out.kept hb6)
  replace B1 := Lib.hid (B1.out.kept hb6)
  have M6 := Lib.hid m6
  obtain ⟨_, _, rfl, _, a5, c5, a6, c6, e, _⟩ := m6
  cases e
  clear hb6
  have hb := below_alloc w6 (.cells #[.int .i64 3, .int .i64 1, .int .i64 7, .slice a5 [3].length c5, .slice a6 [2].length c6] 28)
  replace HB := Lib.hid (HB.out.trans (hb.mono HB.out.size))
  replace M0 := Lib.hid (M0.out.kept hb)
  replace M1 := Lib.hid (M1.out.kept hb)
  replace M6 := Lib.hid (M6.out.kept hb)
  replace B0 := Lib.hid (B0.out.kept hb)
  replace B1 := Lib.hid (B1.out.kept hb)
  clear hb
  simp only [List.length_singleton] at M6 M0 M1 B0 B1 HB ⊢
  obtain ⟨⟨p0, p1, p2, p3, p4⟩, p5⟩ := B0.out
  have ne1 : ¬ w6.heap.size = w1.heap.size := by have := HN.out; omega
  have ne2 : ¬ w1.heap.size = w6.heap.size := by have := HN.out; omega
  go_wp2_with fail
  refine (eqDesk_any 3 1 7 [3] [2] _ _ _ (by simp) (by simp) M6.out.isIn M0.out.isIn).mono ?_
  rintro e w7 ⟨rfl, hb7⟩
  clear p0 p1 p2 p3 p4 p5 ne1 ne2
  replace HB := Lib.hid (HB.out.trans (hb7.mono HB.out.size))
  replace M1 := Lib.hid (M1.out.kept hb7)
  replace B1 := Lib.hid (B1.out.kept hb7)
  clear hb7
  obtain ⟨⟨p0, p1, p2, p3, p4⟩, p5⟩ := B1.out
  go_wp2_with fail
  refine (heldDesk_any 1 1 3 1 7 _ _ _ _ (by simp) (by simp) M1.out).mono ?_
  rintro e w8 ⟨rfl, hb8⟩
  replace HB := Lib.hid (HB.out.trans (hb8.mono HB.out.size))
  clear hb8
  go_wp2_with fail
  go_ret
  exact ⟨rfl, HB.out⟩


set_option maxHeartbeats 8000000 in
theorem fnExactIsDesk_law (v : Value) (t p n : Int) (ns ds : List Int) (w : World) (harg : ArgD w v t p n ns ds) :
    Calls Try.prog 4 #[v] w fun e w' => e = .returned (.bool true) ∧ Below w.heap.size w w' := by
  have HSZ := Lib.hid (fun W (hb : Below w.heap.size w W) => szDesk_any t p n ns ds v W (harg.kept hb))
  have HTO := Lib.hid (fun l1 l2 W (hb : Below w.heap.size w W) => toDesk_any t p n ns ds v W l1 l2 (harg.kept hb))
  obtain ⟨_, _, rfl, _, _, e, ⟨a1, c1, rfl, _⟩, ⟨a2, c2, rfl, _⟩, h1, h2⟩ := harg
  cases e
  by_cases hsz : 1048576 < ns.length + ds.length
  case pos =>
    have HE : Hid (szM ns.length ds.length = -1) := Lib.hid (by rw [szM, if_pos hsz])
    rw [HE.out] at HSZ
    have HB := Lib.hid (below_alloc w (.cells #[.int .i64 t, .int .i64 p, .int .i64 n, .slice a1 ns.length c1, .slice a2 ds.length c2] 36))
    clear h1 h2 hsz HTO
    generalize ns.length = n1 at *
    generalize ds.length = n2 at *
    go_enter Try.func4, Try.ntmps4
    go_wp2_with fail
    refine (HSZ.out _ HB.out).mono ?_
    rintro e w1 ⟨rfl, hb1⟩
    go_wp2_with fail
    go_ret
    exact ⟨rfl, HB.out.trans (hb1.mono HB.out.size)⟩
  have HE : Hid (szM ns.length ds.length = 1048576 - (ns.length : Int) - (ds.length : Int)) := Lib.hid (by rw [szM, if_neg hsz])
  have hd0 : ¬ (1048576 - (ns.length : Int) - (ds.length : Int) < 0) := by omega
  rw [HE.out] at HSZ
  have l1 : ns.length ≤ 1048576 := by omega
  have l2 : ds.length ≤ 1048576 := by omega
  replace HTO := Lib.hid (HTO.out l1 l2)
  have HS := Lib.hid (fun W u (hm : DkIn W u t p n ns ds) => sIsDesk t p n ns ds u W l1 l2 hm)
  have HI := Lib.hid (fun W u (hm : DkIn W u t p n ns ds) => isDesk_any t p n ns ds u W l1 l2 hm)
  have HQ := Lib.hid (fun W u u' (hm : DkIn W u t p n ns ds) (hm' : DkIn W u' t p n ns ds) => eqDesk_any t p n ns ds u u' W l1 l2 hm hm')
  generalize dkB t p n ns ds = r0 at HS HI
  have B := Lib.hid (Bd.new w t p n (.slice a1 ns.length c1) (.slice a2 ds.length c2) 36)
  have HB := Lib.hid (below_alloc w (.cells #[.int .i64 t, .int .i64 p, .int .i64 n, .slice a1 ns.length c1, .slice a2 ds.length c2] 36))
  have hsl : (1048576 - (ns.length : Int) - (ds.length : Int)) ≤ 1048576 := by omega
  generalize (1048576 - (ns.length : Int) - (ds.length : Int)) = left at *
  clear h1 h2 hsz HE l1 l2
  obtain ⟨n1, hn1⟩ : ∃ n1, ns.length = n1 := ⟨_, rfl⟩
  obtain ⟨n2, hn2⟩ : ∃ n2, ds.length = n2 := ⟨_, rfl⟩
  rw [hn1, hn2] at HSZ HTO B HB ⊢
  have HN1 := Lib.hid hn1
  have HN2 := Lib.hid hn2
  clear hn1 hn2
  go_enter Try.func4, Try.ntmps4
  go_wp2_with fail
  refine (HSZ.out _ HB.out).mono ?_
  rintro e w1 ⟨rfl, hb1⟩
  replace B := Lib.hid (B.out.kept hb1)
  replace HB := Lib.hid (HB.out.trans (hb1.mono HB.out.size))
  clear hb1
  obtain ⟨⟨q0, q1, q2, q3, q4⟩, q5⟩ := B.out
  go_wp2_with fail
  refine (HTO.out _ HB.out).mono ?_
  rintro e w2 ⟨u0, rfl, m0, hb2⟩
  clear q0 q1 q2 q3 q4 q5
  replace B := Lib.hid (B.out.kept hb2)
  replace HB := Lib.hid (HB.out.trans (hb2.mono HB.out.size))
  clear hb2
  have M := Lib.hid m0.isIn
  clear m0
  go_wp2_with fail
  refine (HS.out _ _ M.out).mono ?_
  rintro e w3 ⟨rfl, hb3⟩
  replace B := Lib.hid (B.out.kept hb3)
  replace HB := Lib.hid (HB.out.trans (hb3.mono HB.out.size))
  clear hb3
  clear M
  obtain ⟨⟨q0, q1, q2, q3, q4⟩, q5⟩ := B.out
  go_wp2_with fail
  refine (HTO.out _ HB.out).mono ?_
  rintro e w4 ⟨u1, rfl, m1, hb4⟩
  clear q0 q1 q2 q3 q4 q5
  replace B := Lib.hid (B.out.kept hb4)
  replace HB := Lib.hid (HB.out.trans (hb4.mono HB.out.size))
  clear hb4
  have M := Lib.hid m1.isIn
  obtain ⟨_, _, rfl, _, a3, c3, a4, c4, e, _⟩ := m1
  cases e
  rw [HN1.out, HN2.out] at M ⊢
  have X := Lib.hid (Bd.new w4 t p n (.slice a3 n1 c3) (.slice a4 n2 c4) 28)
  have hz4 : w.heap.size < w4.heap.size := B.out.2
  have hx := below_alloc w4 (.cells #[.int .i64 t, .int .i64 p, .int .i64 n, .slice a3 n1 c3, .slice a4 n2 c4] 28)
  replace B := Lib.hid (B.out.kept hx)
  replace M := Lib.hid (M.out.kept hx)
  replace HB := Lib.hid (HB.out.trans (hx.mono HB.out.size))
  clear hx
  go_wp2_with fail
  refine (HI.out _ _ M.out).mono ?_
  rintro e w5 ⟨rfl, hb5⟩
  replace B := Lib.hid (B.out.kept hb5)
  replace X := Lib.hid (X.out.kept hb5)
  replace M := Lib.hid (M.out.kept hb5)
  replace HB := Lib.hid (HB.out.trans (hb5.mono HB.out.size))
  clear hb5
  obtain ⟨⟨q0, q1, q2, q3, q4⟩, q5⟩ := B.out
  obtain ⟨⟨x0, x1, x2, x3, x4⟩, x5⟩ := X.out
  go_wp2_with fail
  go_region_with (first
    | (go_at_call 15; refine (HTO.out _ (by first | exact HB.out | exact HB.out.drew | exact HB.out.drew.drew)).mono ?_; rintro e w6 ⟨u2, rfl, m2, hb6⟩; have M6 := Lib.hid m2.isIn; clear m2; have HB6 : Hid (Below w5.heap.size w5 w6) := Lib.hid (by first | exact hb6 | exact (Below.refl _ _).drew.trans hb6 | exact (Below.refl _ _).drew.drew.trans hb6); clear hb6; have qq0 := (HB6.out.cell (p := ⟨w4.heap.size, 0, none⟩) x5).trans x0; have qq1 := (HB6.out.cell (p := ⟨w4.heap.size, 1, none⟩) x5).trans x1; have qq2 := (HB6.out.cell (p := ⟨w4.heap.size, 2, none⟩) x5).trans x2; have qq3 := (HB6.out.cell (p := ⟨w4.heap.size, 3, none⟩) x5).trans x3; have qq4 := (HB6.out.cell (p := ⟨w4.heap.size, 4, none⟩) x5).trans x4)
    | (go_at_call 10; refine (HQ.out _ _ _ (M.out.kept (by first | exact HB6.out | exact HB6.out.drew | exact HB6.out.drew.drew)) (by first | exact M6.out | exact M6.out.kept (Below.refl _ _).drew | exact M6.out.kept (Below.refl _ _).drew.drew)).mono ?_; rintro e w7 ⟨rfl, hb7⟩; have HB7 : Hid (Below w.heap.size w w7) := Lib.hid ((HB.out.trans (HB6.out.mono HB.out.size)).trans (by first | exact hb7.mono (Nat.le_trans HB.out.size HB6.out.size) | exact ((Below.refl _ _).drew.trans hb7).mono (Nat.le_trans HB.out.size HB6.out.size) | exact ((Below.refl _ _).drew.drew.trans hb7).mono (Nat.le_trans HB.out.size HB6.out.size))); clear hb7))
  all_goals
    go_wp2_with fail
    go_ret
    exact ⟨rfl, by first | exact HB7.out | exact HB7.out.drew | exact HB7.out.drew.drew⟩
end Go.Proofs.Ytkikmmnmppikpaa
