/-
  'MakePuzzle' OF THE PROGRAM, WHERE IT FAILS.
-/
import Derived.Test.YtkikmmnmppikpaaMkC
import Derived.Test.YtkikmmnmppikpaaNum
namespace Go.Proofs.Ytkikmmnmppikpaa
open Go.RowKit
set_option linter.unusedVariables false

theorem mk_aft {t p n : Int} (hn : numB n = true) : (aft t p (nx t p) n 20).2 = (goodB t p && allB (nx t p) n 21) := by
  unfold aft
  cases hg : goodB t p <;> cases ha : allB (nx t p) n 21 <;> simp [askB, hg, hn, ha, inB]

set_option maxRecDepth 100000 in
set_option maxHeartbeats 4000000 in
theorem iMk_n (t p n c s : Int) (w : World) (hn : inB n 1 60 = false) :
    Calls Try.prog 31 #[.agg #[.int .i64 t, .int .i64 p], .int .i64 n, .int .i64 c, .int .i64 s] w (RetPuz (ifT (mkB t p n c s) t) (ifT (mkB t p n c s) p) (mkX t p n c s) (mkB t p n c s) w) := by
  have HF : Hid (mkB t p n c s = false) := Lib.hid (by unfold mkB; rw [hn]; simp)
  have HXF : Hid (mkX t p n c s = []) := Lib.hid (by unfold mkX; rw [HF.out]; rfl)
  have HH := Lib.hid (fun W => isHidden_any n W)
  have HB0 : Hid (Below w.heap.size w ((w.alloc (.cells #[.int .i64 t, .int .i64 p] 23)).alloc (.cells #[.int .i64 0, .int .i64 0, .slice none 0 0] 63))) := Lib.hid ((below_new w _).alloc (by simp) _)
  have M0 : Hid (Bm ((w.alloc (.cells #[.int .i64 t, .int .i64 p] 23)).alloc (.cells #[.int .i64 0, .int .i64 0, .slice none 0 0] 63)) w.heap.size t p) := Lib.hid ((Bm.new _ _ _ _).keep (below_new _ _))
  have R0 : Hid (BzF ((w.alloc (.cells #[.int .i64 t, .int .i64 p] 23)).alloc (.cells #[.int .i64 0, .int .i64 0, .slice none 0 0] 63)) (w.heap.size + 1) 0 0 (.slice none 0 0)) := Lib.hid (BzF.new _ _ _ _ _ (by simp))
  rw [HXF.out, HF.out]
  rw [ifT_false, ifT_false]
  rw [hn] at HH
  go_enter Try.func31, Try.ntmps31
  go_upto_region 1 with fail
  generalize ((w.alloc (.cells #[.int .i64 t, .int .i64 p] 23)).alloc (.cells #[.int .i64 0, .int .i64 0, .slice none 0 0] 63)) = w1 at HB0 M0 R0 ⊢
  obtain ⟨⟨p0, p1⟩, p2⟩ := M0.out
  obtain ⟨r0, r1, r2, f0, f1, f2⟩ := R0.out.cells
  go_wp2_with ((go_at_call 66; refine (HH.out _).mono ?_; rintro e w2 ⟨rfl, rfl⟩))
  obtain ⟨c0, c1, c2⟩ := put3_cells R0.out 0 0 (.slice none 0 0)
  unfold put3 at c0 c1 c2
  refine bodyPost_ret (v := .tuple #[.agg #[.int .i64 0, .int .i64 0, .slice none 0 0], .bool false]) (by simp [results, Try.f31, go_sem, c0, c1, c2]) rfl ⟨_, rfl, ?_, ?_⟩
  · exact (puz_none HB0.out (by omega)).1
  · exact (puz_none HB0.out (by omega)).2

set_option maxRecDepth 100000 in
set_option maxHeartbeats 4000000 in
theorem iMk_c0 (t p n c s : Int) (w : World) (hn : inB n 1 60 = true) (hc : c < 0) :
    Calls Try.prog 31 #[.agg #[.int .i64 t, .int .i64 p], .int .i64 n, .int .i64 c, .int .i64 s] w (RetPuz (ifT (mkB t p n c s) t) (ifT (mkB t p n c s) p) (mkX t p n c s) (mkB t p n c s) w) := by
  have HF : Hid (mkB t p n c s = false) := Lib.hid (by unfold mkB; rw [show inB c 0 6 = false by simp [inB]; omega]; simp)
  have HXF : Hid (mkX t p n c s = []) := Lib.hid (by unfold mkX; rw [HF.out]; rfl)
  have HH := Lib.hid (fun W => isHidden_any n W)
  have HB0 : Hid (Below w.heap.size w ((w.alloc (.cells #[.int .i64 t, .int .i64 p] 23)).alloc (.cells #[.int .i64 0, .int .i64 0, .slice none 0 0] 63))) := Lib.hid ((below_new w _).alloc (by simp) _)
  have M0 : Hid (Bm ((w.alloc (.cells #[.int .i64 t, .int .i64 p] 23)).alloc (.cells #[.int .i64 0, .int .i64 0, .slice none 0 0] 63)) w.heap.size t p) := Lib.hid ((Bm.new _ _ _ _).keep (below_new _ _))
  have R0 : Hid (BzF ((w.alloc (.cells #[.int .i64 t, .int .i64 p] 23)).alloc (.cells #[.int .i64 0, .int .i64 0, .slice none 0 0] 63)) (w.heap.size + 1) 0 0 (.slice none 0 0)) := Lib.hid (BzF.new _ _ _ _ _ (by simp))
  rw [HXF.out, HF.out]
  rw [ifT_false, ifT_false]
  rw [hn] at HH
  go_enter Try.func31, Try.ntmps31
  go_upto_region 1 with fail
  generalize ((w.alloc (.cells #[.int .i64 t, .int .i64 p] 23)).alloc (.cells #[.int .i64 0, .int .i64 0, .slice none 0 0] 63)) = w1 at HB0 M0 R0 ⊢
  obtain ⟨⟨p0, p1⟩, p2⟩ := M0.out
  obtain ⟨r0, r1, r2, f0, f1, f2⟩ := R0.out.cells
  go_wp2_with ((go_at_call 66; refine (HH.out _).mono ?_; rintro e w2 ⟨rfl, rfl⟩))
  obtain ⟨c0, c1, c2⟩ := put3_cells R0.out 0 0 (.slice none 0 0)
  unfold put3 at c0 c1 c2
  refine bodyPost_ret (v := .tuple #[.agg #[.int .i64 0, .int .i64 0, .slice none 0 0], .bool false]) (by simp [results, Try.f31, go_sem, c0, c1, c2]) rfl ⟨_, rfl, ?_, ?_⟩
  · exact (puz_none HB0.out (by omega)).1
  · exact (puz_none HB0.out (by omega)).2

set_option maxRecDepth 100000 in
set_option maxHeartbeats 4000000 in
theorem iMk_c6 (t p n c s : Int) (w : World) (hn : inB n 1 60 = true) (hc0 : 0 ≤ c) (hc : 6 < c) :
    Calls Try.prog 31 #[.agg #[.int .i64 t, .int .i64 p], .int .i64 n, .int .i64 c, .int .i64 s] w (RetPuz (ifT (mkB t p n c s) t) (ifT (mkB t p n c s) p) (mkX t p n c s) (mkB t p n c s) w) := by
  have HF : Hid (mkB t p n c s = false) := Lib.hid (by unfold mkB; rw [show inB c 0 6 = false by simp [inB]; omega]; simp)
  have HXF : Hid (mkX t p n c s = []) := Lib.hid (by unfold mkX; rw [HF.out]; rfl)
  have HH := Lib.hid (fun W => isHidden_any n W)
  have HB0 : Hid (Below w.heap.size w ((w.alloc (.cells #[.int .i64 t, .int .i64 p] 23)).alloc (.cells #[.int .i64 0, .int .i64 0, .slice none 0 0] 63))) := Lib.hid ((below_new w _).alloc (by simp) _)
  have M0 : Hid (Bm ((w.alloc (.cells #[.int .i64 t, .int .i64 p] 23)).alloc (.cells #[.int .i64 0, .int .i64 0, .slice none 0 0] 63)) w.heap.size t p) := Lib.hid ((Bm.new _ _ _ _).keep (below_new _ _))
  have R0 : Hid (BzF ((w.alloc (.cells #[.int .i64 t, .int .i64 p] 23)).alloc (.cells #[.int .i64 0, .int .i64 0, .slice none 0 0] 63)) (w.heap.size + 1) 0 0 (.slice none 0 0)) := Lib.hid (BzF.new _ _ _ _ _ (by simp))
  rw [HXF.out, HF.out]
  rw [ifT_false, ifT_false]
  rw [hn] at HH
  go_enter Try.func31, Try.ntmps31
  go_upto_region 1 with fail
  generalize ((w.alloc (.cells #[.int .i64 t, .int .i64 p] 23)).alloc (.cells #[.int .i64 0, .int .i64 0, .slice none 0 0] 63)) = w1 at HB0 M0 R0 ⊢
  obtain ⟨⟨p0, p1⟩, p2⟩ := M0.out
  obtain ⟨r0, r1, r2, f0, f1, f2⟩ := R0.out.cells
  go_wp2_with ((go_at_call 66; refine (HH.out _).mono ?_; rintro e w2 ⟨rfl, rfl⟩))
  obtain ⟨c0, c1, c2⟩ := put3_cells R0.out 0 0 (.slice none 0 0)
  unfold put3 at c0 c1 c2
  refine bodyPost_ret (v := .tuple #[.agg #[.int .i64 0, .int .i64 0, .slice none 0 0], .bool false]) (by simp [results, Try.f31, go_sem, c0, c1, c2]) rfl ⟨_, rfl, ?_, ?_⟩
  · exact (puz_none HB0.out (by omega)).1
  · exact (puz_none HB0.out (by omega)).2

set_option maxRecDepth 100000 in
set_option maxHeartbeats 4000000 in
theorem iMk_s0 (t p n c s : Int) (w : World) (hn : inB n 1 60 = true) (hc0 : 0 ≤ c) (hc : c ≤ 6) (hs : s < 0) :
    Calls Try.prog 31 #[.agg #[.int .i64 t, .int .i64 p], .int .i64 n, .int .i64 c, .int .i64 s] w (RetPuz (ifT (mkB t p n c s) t) (ifT (mkB t p n c s) p) (mkX t p n c s) (mkB t p n c s) w) := by
  have HF : Hid (mkB t p n c s = false) := Lib.hid (by unfold mkB; rw [show inB s 0 9999 = false by simp [inB]; omega]; simp)
  have HXF : Hid (mkX t p n c s = []) := Lib.hid (by unfold mkX; rw [HF.out]; rfl)
  have HH := Lib.hid (fun W => isHidden_any n W)
  have HB0 : Hid (Below w.heap.size w ((w.alloc (.cells #[.int .i64 t, .int .i64 p] 23)).alloc (.cells #[.int .i64 0, .int .i64 0, .slice none 0 0] 63))) := Lib.hid ((below_new w _).alloc (by simp) _)
  have M0 : Hid (Bm ((w.alloc (.cells #[.int .i64 t, .int .i64 p] 23)).alloc (.cells #[.int .i64 0, .int .i64 0, .slice none 0 0] 63)) w.heap.size t p) := Lib.hid ((Bm.new _ _ _ _).keep (below_new _ _))
  have R0 : Hid (BzF ((w.alloc (.cells #[.int .i64 t, .int .i64 p] 23)).alloc (.cells #[.int .i64 0, .int .i64 0, .slice none 0 0] 63)) (w.heap.size + 1) 0 0 (.slice none 0 0)) := Lib.hid (BzF.new _ _ _ _ _ (by simp))
  rw [HXF.out, HF.out]
  rw [ifT_false, ifT_false]
  rw [hn] at HH
  go_enter Try.func31, Try.ntmps31
  go_upto_region 1 with fail
  generalize ((w.alloc (.cells #[.int .i64 t, .int .i64 p] 23)).alloc (.cells #[.int .i64 0, .int .i64 0, .slice none 0 0] 63)) = w1 at HB0 M0 R0 ⊢
  obtain ⟨⟨p0, p1⟩, p2⟩ := M0.out
  obtain ⟨r0, r1, r2, f0, f1, f2⟩ := R0.out.cells
  go_wp2_with ((go_at_call 66; refine (HH.out _).mono ?_; rintro e w2 ⟨rfl, rfl⟩))
  obtain ⟨c0, c1, c2⟩ := put3_cells R0.out 0 0 (.slice none 0 0)
  unfold put3 at c0 c1 c2
  refine bodyPost_ret (v := .tuple #[.agg #[.int .i64 0, .int .i64 0, .slice none 0 0], .bool false]) (by simp [results, Try.f31, go_sem, c0, c1, c2]) rfl ⟨_, rfl, ?_, ?_⟩
  · exact (puz_none HB0.out (by omega)).1
  · exact (puz_none HB0.out (by omega)).2

set_option maxRecDepth 100000 in
set_option maxHeartbeats 4000000 in
theorem iMk_s9 (t p n c s : Int) (w : World) (hn : inB n 1 60 = true) (hc0 : 0 ≤ c) (hc : c ≤ 6) (hs0 : 0 ≤ s) (hs : 9999 < s) :
    Calls Try.prog 31 #[.agg #[.int .i64 t, .int .i64 p], .int .i64 n, .int .i64 c, .int .i64 s] w (RetPuz (ifT (mkB t p n c s) t) (ifT (mkB t p n c s) p) (mkX t p n c s) (mkB t p n c s) w) := by
  have HF : Hid (mkB t p n c s = false) := Lib.hid (by unfold mkB; rw [show inB s 0 9999 = false by simp [inB]; omega]; simp)
  have HXF : Hid (mkX t p n c s = []) := Lib.hid (by unfold mkX; rw [HF.out]; rfl)
  have HH := Lib.hid (fun W => isHidden_any n W)
  have HB0 : Hid (Below w.heap.size w ((w.alloc (.cells #[.int .i64 t, .int .i64 p] 23)).alloc (.cells #[.int .i64 0, .int .i64 0, .slice none 0 0] 63))) := Lib.hid ((below_new w _).alloc (by simp) _)
  have M0 : Hid (Bm ((w.alloc (.cells #[.int .i64 t, .int .i64 p] 23)).alloc (.cells #[.int .i64 0, .int .i64 0, .slice none 0 0] 63)) w.heap.size t p) := Lib.hid ((Bm.new _ _ _ _).keep (below_new _ _))
  have R0 : Hid (BzF ((w.alloc (.cells #[.int .i64 t, .int .i64 p] 23)).alloc (.cells #[.int .i64 0, .int .i64 0, .slice none 0 0] 63)) (w.heap.size + 1) 0 0 (.slice none 0 0)) := Lib.hid (BzF.new _ _ _ _ _ (by simp))
  rw [HXF.out, HF.out]
  rw [ifT_false, ifT_false]
  rw [hn] at HH
  go_enter Try.func31, Try.ntmps31
  go_upto_region 1 with fail
  generalize ((w.alloc (.cells #[.int .i64 t, .int .i64 p] 23)).alloc (.cells #[.int .i64 0, .int .i64 0, .slice none 0 0] 63)) = w1 at HB0 M0 R0 ⊢
  obtain ⟨⟨p0, p1⟩, p2⟩ := M0.out
  obtain ⟨r0, r1, r2, f0, f1, f2⟩ := R0.out.cells
  go_wp2_with ((go_at_call 66; refine (HH.out _).mono ?_; rintro e w2 ⟨rfl, rfl⟩))
  obtain ⟨c0, c1, c2⟩ := put3_cells R0.out 0 0 (.slice none 0 0)
  unfold put3 at c0 c1 c2
  refine bodyPost_ret (v := .tuple #[.agg #[.int .i64 0, .int .i64 0, .slice none 0 0], .bool false]) (by simp [results, Try.f31, go_sem, c0, c1, c2]) rfl ⟨_, rfl, ?_, ?_⟩
  · exact (puz_none HB0.out (by omega)).1
  · exact (puz_none HB0.out (by omega)).2

set_option maxRecDepth 100000 in
set_option maxHeartbeats 4000000 in
theorem iMk_p (t p n c s : Int) (w : World) (hn : inB n 1 60 = true) (hc0 : 0 ≤ c) (hc : c ≤ 6) (hs0 : 0 ≤ s) (hs : s ≤ 9999) (ha : (goodB t p && allB (nx t p) n 21) = false) :
    Calls Try.prog 31 #[.agg #[.int .i64 t, .int .i64 p], .int .i64 n, .int .i64 c, .int .i64 s] w (RetPuz (ifT (mkB t p n c s) t) (ifT (mkB t p n c s) p) (mkX t p n c s) (mkB t p n c s) w) := by
  have HF : Hid (mkB t p n c s = false) := Lib.hid (by unfold mkB; cases hg : goodB t p <;> simp_all)
  have HXF : Hid (mkX t p n c s = []) := Lib.hid (by unfold mkX; rw [HF.out]; rfl)
  have HH := Lib.hid (fun W => isHidden_any n W)
  have HB0 : Hid (Below w.heap.size w ((w.alloc (.cells #[.int .i64 t, .int .i64 p] 23)).alloc (.cells #[.int .i64 0, .int .i64 0, .slice none 0 0] 63))) := Lib.hid ((below_new w _).alloc (by simp) _)
  have M0 : Hid (Bm ((w.alloc (.cells #[.int .i64 t, .int .i64 p] 23)).alloc (.cells #[.int .i64 0, .int .i64 0, .slice none 0 0] 63)) w.heap.size t p) := Lib.hid ((Bm.new _ _ _ _).keep (below_new _ _))
  have R0 : Hid (BzF ((w.alloc (.cells #[.int .i64 t, .int .i64 p] 23)).alloc (.cells #[.int .i64 0, .int .i64 0, .slice none 0 0] 63)) (w.heap.size + 1) 0 0 (.slice none 0 0)) := Lib.hid (BzF.new _ _ _ _ _ (by simp))
  rw [HXF.out, HF.out]
  rw [ifT_false, ifT_false]
  have h60 := inB_hid hn
  have HP := Lib.hid (fun W => iNumberAfter t p n 20 W)
  rw [mk_aft (numB_iff.2 (by omega)), ha] at HP
  rw [hn] at HH
  go_enter Try.func31, Try.ntmps31
  go_upto_region 1 with fail
  generalize ((w.alloc (.cells #[.int .i64 t, .int .i64 p] 23)).alloc (.cells #[.int .i64 0, .int .i64 0, .slice none 0 0] 63)) = w1 at HB0 M0 R0 ⊢
  obtain ⟨⟨p0, p1⟩, p2⟩ := M0.out
  obtain ⟨r0, r1, r2, f0, f1, f2⟩ := R0.out.cells
  go_wp2_with (first | (go_at_call 66; refine (HH.out _).mono ?_; rintro e w2 ⟨rfl, rfl⟩) | (go_at_call 67; refine (HP.out _).mono ?_; rintro e w3 ⟨rfl, hb3⟩; have M3 := Lib.hid (M0.out.keep hb3); have R3 := Lib.hid (R0.out.kept hb3); have HB3 := Lib.hid (HB0.out.trans (hb3.mono HB0.out.size)); clear hb3 p0 p1 p2 r0 r1 r2 f0 f1 f2; obtain ⟨⟨p0, p1⟩, p2⟩ := M3.out; obtain ⟨r0, r1, r2, f0, f1, f2⟩ := R3.out.cells))
  obtain ⟨c0, c1, c2⟩ := put3_cells R3.out 0 0 (.slice none 0 0)
  unfold put3 at c0 c1 c2
  refine bodyPost_ret (v := .tuple #[.agg #[.int .i64 0, .int .i64 0, .slice none 0 0], .bool false]) (by simp [results, Try.f31, go_sem, c0, c1, c2]) rfl ⟨_, rfl, ?_, ?_⟩
  · exact (puz_none HB3.out (by omega)).1
  · exact (puz_none HB3.out (by omega)).2
end Go.Proofs.Ytkikmmnmppikpaa
