/-
  THE WALK OF THE LAW 'MakePuzzle'.
-/
import Derived.Test.YtkikmmnmppikpaaMkT
import Derived.Test.YtkikmmnmppikpaaMkQ
namespace Go.Proofs.Ytkikmmnmppikpaa
open Go.RowKit
set_option linter.unusedVariables false

set_option maxRecDepth 100000 in
set_option maxHeartbeats 8000000 in
theorem fnExactMakePuzzle_law (t p n c s : Int) (h1 : (Lit.int .i64 n).wf = true) (h2 : (Lit.int .i64 c).wf = true) (h3 : (Lit.int .i64 s).wf = true) (w : World) :
    Calls Try.prog 7 #[.agg #[.int .i64 t, .int .i64 p], .int .i64 n, .int .i64 c, .int .i64 s] w fun e w' => e = .returned (.bool true) ∧ Below w.heap.size w w' := by
  have HTM := Lib.hid (fun W => toMap_anyP t p W)
  have HS := Lib.hid (fun W => sMakePuzzle t p n c s W)
  have HI := Lib.hid (fun W => iMakePuzzle t p n c s W)
  have HLX := Lib.hid (mkX_len t p n c s)
  generalize mkX t p n c s = xs at HS HI HLX
  generalize ifT (mkB t p n c s) t = tx at HS HI
  generalize ifT (mkB t p n c s) p = ty at HS HI
  generalize mkB t p n c s = ok at HS HI
  have B := Lib.hid (Bm.new w t p 33)
  have HB := Lib.hid (below_new w (.cells #[.int .i64 t, .int .i64 p] 33))
  clear h1 h2 h3
  go_enter Try.func7, Try.ntmps7
  go_wp2_with fail
  refine (HTM.out _).mono ?_
  rintro e w1 ⟨rfl, hb1⟩
  replace B := Lib.hid (B.out.keep hb1)
  replace HB := Lib.hid (HB.out.trans (hb1.mono HB.out.size))
  clear hb1
  go_wp2_with fail
  refine (HS.out _).mono ?_
  rintro e w2 ⟨u2, rfl, m2, hb2⟩
  replace B := Lib.hid (B.out.keep hb2)
  replace HB := Lib.hid (HB.out.trans (hb2.mono HB.out.size))
  clear hb2
  have M0 := Lib.hid m2
  obtain ⟨_, a3, c3, rfl, _⟩ := m2
  have hz : w.heap.size < w2.heap.size := B.out.2
  have B0 := Lib.hid (Bz.new w2 tx ty (.slice a3 xs.length c3) 63)
  obtain ⟨⟨q0, q1⟩, q2⟩ := B.out
  have n1e1 : ¬ w2.heap.size = w.heap.size := by omega
  have n1e2 : ¬ w.heap.size = w2.heap.size := by omega
  replace B := Lib.hid (B.out.keep (below_new w2 (.cells #[.int .i64 tx, .int .i64 ty, .slice a3 xs.length c3] 63)))
  replace M0 := Lib.hid (M0.out.kept (below_new w2 (.cells #[.int .i64 tx, .int .i64 ty, .slice a3 xs.length c3] 63)))
  replace HB := Lib.hid (HB.out.trans ((below_new w2 (.cells #[.int .i64 tx, .int .i64 ty, .slice a3 xs.length c3] 63)).mono HB.out.size))
  obtain ⟨lx, hlx⟩ : ∃ lx, (w2.alloc (.cells #[.int .i64 tx, .int .i64 ty, .slice a3 xs.length c3] 63)).heap.size = lx := ⟨_, rfl⟩
  have hlx2 : lx = w2.heap.size + 1 := by rw [← hlx]; simp
  go_wp2_with fail
  refine (HTM.out _).mono ?_
  rintro e w3 ⟨rfl, hb3⟩
  have hz3 := hb3.size
  rw [hlx] at hz3
  clear q0 q1 q2
  clear n1e1 n1e2
  replace B := Lib.hid (B.out.keep hb3)
  replace B0 := Lib.hid (B0.out.kept hb3)
  replace M0 := Lib.hid (M0.out.kept hb3)
  replace HB := Lib.hid (HB.out.trans (hb3.mono HB.out.size))
  clear hb3
  go_wp2_with fail
  refine (HI.out _).mono ?_
  rintro e w4 ⟨u4, rfl, m4, hb4⟩
  have hz4 := hb4.size
  replace B := Lib.hid (B.out.keep hb4)
  replace B0 := Lib.hid (B0.out.kept hb4)
  replace M0 := Lib.hid (M0.out.kept hb4)
  replace HB := Lib.hid (HB.out.trans (hb4.mono HB.out.size))
  clear hb4
  have M1 := Lib.hid m4
  obtain ⟨_, a7, c7, rfl, _⟩ := m4
  have B1 := Lib.hid (Bz.new w4 tx ty (.slice a7 xs.length c7) 63)
  obtain ⟨⟨B0p0, B0pa, B0pb⟩, B0p2⟩ := B0.out
  have n2e1 : ¬ w4.heap.size = w2.heap.size := by omega
  have n2e2 : ¬ w2.heap.size = w4.heap.size := by omega
  replace B := Lib.hid (B.out.keep (below_new w4 (.cells #[.int .i64 tx, .int .i64 ty, .slice a7 xs.length c7] 63)))
  replace B0 := Lib.hid (B0.out.kept (below_new w4 (.cells #[.int .i64 tx, .int .i64 ty, .slice a7 xs.length c7] 63)))
  replace M0 := Lib.hid (M0.out.kept (below_new w4 (.cells #[.int .i64 tx, .int .i64 ty, .slice a7 xs.length c7] 63)))
  replace M1 := Lib.hid (M1.out.kept (below_new w4 (.cells #[.int .i64 tx, .int .i64 ty, .slice a7 xs.length c7] 63)))
  replace HB := Lib.hid (HB.out.trans ((below_new w4 (.cells #[.int .i64 tx, .int .i64 ty, .slice a7 xs.length c7] 63)).mono HB.out.size))
  clear hlx
  go_wp2_with fail
  refine (eqPuzzle_any tx ty xs _ _ _ HLX.out M1.out.isIn M0.out.isIn).mono ?_
  rintro e w5 ⟨rfl, hb5⟩
  clear B0p0 B0pa B0pb B0p2
  clear n2e1 n2e2
  replace B := Lib.hid (B.out.keep hb5)
  replace B0 := Lib.hid (B0.out.kept hb5)
  replace B1 := Lib.hid (B1.out.kept hb5)
  replace M0 := Lib.hid (M0.out.kept hb5)
  replace M1 := Lib.hid (M1.out.kept hb5)
  replace HB := Lib.hid (HB.out.trans (hb5.mono HB.out.size))
  clear hb5
  obtain ⟨⟨B1p0, B1pa, B1pb⟩, B1p2⟩ := B1.out
  go_wp2_with fail
  refine (markPuzzle_any tx ty xs _ _ _ _ HLX.out M1.out).mono ?_
  rintro e w6 ⟨rfl, ht, mk⟩
  replace B := Lib.hid (B.out.touch ht (.inl (by omega)))
  replace B0 := Lib.hid (B0.out.touch ht (.inl (by omega)))
  replace B1 := Lib.hid (B1.out.touch ht (.inr (Nat.le_refl _)))
  replace M0 := Lib.hid (M0.out.touch ht (.inl (by omega)))
  replace M1 := Lib.hid mk
  replace HB := Lib.hid (HB.out.trans (ht.below (by omega) HB.out.size))
  clear ht mk
  clear B1p0 B1pa B1pb B1p2
  obtain ⟨⟨B1p0, B1pa, B1pb⟩, B1p2⟩ := B1.out
  have hl1 : (xs.length : Int) ≤ 1048576 := by have := HLX.out; omega
  have hd : decide (1 + 3 * (xs.length : Int) < 0) = false := by simp; omega
  go_wp2_with fail
  refine (heldPuzzle_any xs.length tx ty _ _ _ _ HLX.out M1.out).mono ?_
  rintro e w7 ⟨rfl, hb7⟩
  clear B1p0 B1pa B1pb B1p2
  replace B := Lib.hid (B.out.keep hb7)
  replace B0 := Lib.hid (B0.out.kept hb7)
  replace B1 := Lib.hid (B1.out.kept hb7)
  replace M0 := Lib.hid (M0.out.kept hb7)
  replace M1 := Lib.hid (M1.out.kept hb7)
  replace HB := Lib.hid (HB.out.trans (hb7.mono HB.out.size))
  clear hb7
  obtain ⟨⟨q0, q1⟩, q2⟩ := B.out
  go_wp2_with fail
  refine (HTM.out _).mono ?_
  rintro e w8 ⟨rfl, hb8⟩
  clear q0 q1 q2
  replace B0 := Lib.hid (B0.out.kept hb8)
  replace B1 := Lib.hid (B1.out.kept hb8)
  replace M0 := Lib.hid (M0.out.kept hb8)
  replace M1 := Lib.hid (M1.out.kept hb8)
  replace HB := Lib.hid (HB.out.trans (hb8.mono HB.out.size))
  clear hb8 B
  go_wp2_with fail
  refine (HI.out _).mono ?_
  rintro e w9 ⟨u9, rfl, m9, hb9⟩
  replace B0 := Lib.hid (B0.out.kept hb9)
  replace B1 := Lib.hid (B1.out.kept hb9)
  replace M0 := Lib.hid (M0.out.kept hb9)
  replace M1 := Lib.hid (M1.out.kept hb9)
  replace HB := Lib.hid (HB.out.trans (hb9.mono HB.out.size))
  clear hb9
  have M2 := Lib.hid m9
  obtain ⟨_, a9, c9, rfl, _⟩ := m9
  have hzz : w4.heap.size < w9.heap.size := B1.out.2
  obtain ⟨⟨B0p0, B0pa, B0pb⟩, B0p2⟩ := B0.out
  obtain ⟨⟨B1p0, B1pa, B1pb⟩, B1p2⟩ := B1.out
  have n3e1 : ¬ w9.heap.size = w2.heap.size := by omega
  have n3e2 : ¬ w2.heap.size = w9.heap.size := by omega
  have n4e1 : ¬ w9.heap.size = w4.heap.size := by omega
  have n4e2 : ¬ w4.heap.size = w9.heap.size := by omega
  replace B1 := Lib.hid (B1.out.kept (below_new w9 (.cells #[.int .i64 tx, .int .i64 ty, .slice a9 xs.length c9] 63)))
  replace M0 := Lib.hid (M0.out.kept (below_new w9 (.cells #[.int .i64 tx, .int .i64 ty, .slice a9 xs.length c9] 63)))
  replace M1 := Lib.hid (M1.out.kept (below_new w9 (.cells #[.int .i64 tx, .int .i64 ty, .slice a9 xs.length c9] 63)))
  replace M2 := Lib.hid (M2.out.kept (below_new w9 (.cells #[.int .i64 tx, .int .i64 ty, .slice a9 xs.length c9] 63)))
  replace HB := Lib.hid (HB.out.trans ((below_new w9 (.cells #[.int .i64 tx, .int .i64 ty, .slice a9 xs.length c9] 63)).mono HB.out.size))
  go_wp2_with fail
  refine (eqPuzzle_any tx ty xs _ _ _ HLX.out M2.out.isIn M0.out.isIn).mono ?_
  rintro e w10 ⟨rfl, hb10⟩
  clear B0p0 B0pa B0pb B0p2
  clear B1p0 B1pa B1pb B1p2
  clear n3e1 n3e2
  clear n4e1 n4e2
  replace B1 := Lib.hid (B1.out.kept hb10)
  replace M1 := Lib.hid (M1.out.kept hb10)
  replace HB := Lib.hid (HB.out.trans (hb10.mono HB.out.size))
  clear hb10
  obtain ⟨⟨B1p0, B1pa, B1pb⟩, B1p2⟩ := B1.out
  go_wp2_with fail
  refine (heldPuzzle_any xs.length tx ty _ _ _ _ HLX.out M1.out).mono ?_
  rintro e w11 ⟨rfl, hb11⟩
  replace HB := Lib.hid (HB.out.trans (hb11.mono HB.out.size))
  clear hb11
  go_wp2_with fail
  go_ret
  exact ⟨rfl, HB.out⟩
end Go.Proofs.Ytkikmmnmppikpaa
