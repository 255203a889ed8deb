/-
  'MakePuzzle' OF THE MODEL.
-/
import Derived.Test.YtkikmmnmppikpaaMkM
import Derived.Test.YtkikmmnmppikpaaPzV
import Derived.Test.YtkikmmnmppikpaaPzA
import Derived.Test.YtkikmmnmppikpaaPzJ
import Derived.Test.YtkikmmnmppikpaaClR
import Derived.Test.YtkikmmnmppikpaaRtZ
import Derived.Test.YtkikmmnmppikpaaPath
namespace Go.Proofs.Ytkikmmnmppikpaa
open Go.RowKit
set_option linter.unusedVariables false

theorem ifT_false (x : Int) : ifT false x = 0 := rfl
theorem ifT_true (x : Int) : ifT true x = x := rfl

set_option maxRecDepth 100000 in
set_option maxHeartbeats 4000000 in
theorem sMk_g (t p n c s : Int) (w : World) (hg : goodB t p = false) :
    Calls Try.prog 29 #[.agg #[.int .i64 t, .int .i64 p], .int .i64 n, .int .i64 c, .int .i64 s] w (RetPuz (ifT (mkB t p n c s) t) (ifT (mkB t p n c s) p) (mkX t p n c s) (mkB t p n c s) w) := by
  have HF : Hid (mkB t p n c s = false) := Lib.hid (by unfold mkB; rw [hg]; simp)
  have HXF : Hid (mkX t p n c s = []) := Lib.hid (by unfold mkX; rw [HF.out]; rfl)
  have HG := Lib.hid (fun W => mpGood_any t p W)
  have HH := Lib.hid (fun W => pzHidden_any n W)
  have HL := Lib.hid (fun W a lo hi => l1In_any a lo hi W)
  have HB0 : Hid (Below w.heap.size w ((w.alloc (.cells #[.int .i64 t, .int .i64 p] 23)).alloc (.cells #[.int .i64 0, .int .i64 0, .slice none 0 0] 63))) := Lib.hid ((below_new w _).alloc (by simp) _)
  have M0 : Hid (Bm ((w.alloc (.cells #[.int .i64 t, .int .i64 p] 23)).alloc (.cells #[.int .i64 0, .int .i64 0, .slice none 0 0] 63)) w.heap.size t p) := Lib.hid ((Bm.new _ _ _ _).keep (below_new _ _))
  have R0 : Hid (BzF ((w.alloc (.cells #[.int .i64 t, .int .i64 p] 23)).alloc (.cells #[.int .i64 0, .int .i64 0, .slice none 0 0] 63)) (w.heap.size + 1) 0 0 (.slice none 0 0)) := Lib.hid (BzF.new _ _ _ _ _ (by simp))
  rw [HXF.out, HF.out]
  rw [ifT_false, ifT_false]
  rw [hg] at HG
  go_enter Try.func29, Try.ntmps29
  go_wp2_with (first | (go_at_call 61; refine (HG.out _).mono ?_; rintro e w1 ⟨rfl, hb1⟩; have M1 := Lib.hid (M0.out.keep hb1); have R1 := Lib.hid (R0.out.kept hb1); have HB1 := Lib.hid (HB0.out.trans (hb1.mono HB0.out.size)); clear hb1; obtain ⟨⟨p0, p1⟩, p2⟩ := M1.out; obtain ⟨r0, r1, r2, f0, f1, f2⟩ := R1.out.cells) | (go_at_call 62; refine (HH.out _).mono ?_; rintro e w2 ⟨rfl, rfl⟩) | (go_at_call 47; refine (HL.out _ _ _ _).mono ?_; rintro e w2 ⟨rfl, rfl⟩; first | rw [hs] | rw [hc]))
  obtain ⟨c0, c1, c2⟩ := put3_cells R1.out 0 0 (.slice none 0 0)
  unfold put3 at c0 c1 c2
  refine bodyPost_ret (v := .tuple #[.agg #[.int .i64 0, .int .i64 0, .slice none 0 0], .bool false]) (by simp [results, Try.f29, go_sem, c0, c1, c2]) rfl ⟨_, rfl, ?_, ?_⟩
  · exact (puz_none HB1.out (by omega)).1
  · exact (puz_none HB1.out (by omega)).2

set_option maxRecDepth 100000 in
set_option maxHeartbeats 4000000 in
theorem sMk_n (t p n c s : Int) (w : World) (hg : goodB t p = true) (hn : inB n 1 60 = false) :
    Calls Try.prog 29 #[.agg #[.int .i64 t, .int .i64 p], .int .i64 n, .int .i64 c, .int .i64 s] w (RetPuz (ifT (mkB t p n c s) t) (ifT (mkB t p n c s) p) (mkX t p n c s) (mkB t p n c s) w) := by
  have HF : Hid (mkB t p n c s = false) := Lib.hid (by unfold mkB; rw [hg, hn]; simp)
  have HXF : Hid (mkX t p n c s = []) := Lib.hid (by unfold mkX; rw [HF.out]; rfl)
  have HG := Lib.hid (fun W => mpGood_any t p W)
  have HH := Lib.hid (fun W => pzHidden_any n W)
  have HL := Lib.hid (fun W a lo hi => l1In_any a lo hi W)
  have HB0 : Hid (Below w.heap.size w ((w.alloc (.cells #[.int .i64 t, .int .i64 p] 23)).alloc (.cells #[.int .i64 0, .int .i64 0, .slice none 0 0] 63))) := Lib.hid ((below_new w _).alloc (by simp) _)
  have M0 : Hid (Bm ((w.alloc (.cells #[.int .i64 t, .int .i64 p] 23)).alloc (.cells #[.int .i64 0, .int .i64 0, .slice none 0 0] 63)) w.heap.size t p) := Lib.hid ((Bm.new _ _ _ _).keep (below_new _ _))
  have R0 : Hid (BzF ((w.alloc (.cells #[.int .i64 t, .int .i64 p] 23)).alloc (.cells #[.int .i64 0, .int .i64 0, .slice none 0 0] 63)) (w.heap.size + 1) 0 0 (.slice none 0 0)) := Lib.hid (BzF.new _ _ _ _ _ (by simp))
  rw [HXF.out, HF.out]
  rw [ifT_false, ifT_false]
  rw [hg] at HG
  rw [hn] at HH
  go_enter Try.func29, Try.ntmps29
  go_wp2_with (first | (go_at_call 61; refine (HG.out _).mono ?_; rintro e w1 ⟨rfl, hb1⟩; have M1 := Lib.hid (M0.out.keep hb1); have R1 := Lib.hid (R0.out.kept hb1); have HB1 := Lib.hid (HB0.out.trans (hb1.mono HB0.out.size)); clear hb1; obtain ⟨⟨p0, p1⟩, p2⟩ := M1.out; obtain ⟨r0, r1, r2, f0, f1, f2⟩ := R1.out.cells) | (go_at_call 62; refine (HH.out _).mono ?_; rintro e w2 ⟨rfl, rfl⟩) | (go_at_call 47; refine (HL.out _ _ _ _).mono ?_; rintro e w2 ⟨rfl, rfl⟩; first | rw [hs] | rw [hc]))
  obtain ⟨c0, c1, c2⟩ := put3_cells R1.out 0 0 (.slice none 0 0)
  unfold put3 at c0 c1 c2
  refine bodyPost_ret (v := .tuple #[.agg #[.int .i64 0, .int .i64 0, .slice none 0 0], .bool false]) (by simp [results, Try.f29, go_sem, c0, c1, c2]) rfl ⟨_, rfl, ?_, ?_⟩
  · exact (puz_none HB1.out (by omega)).1
  · exact (puz_none HB1.out (by omega)).2

set_option maxRecDepth 100000 in
set_option maxHeartbeats 4000000 in
theorem sMk_c (t p n c s : Int) (w : World) (hg : goodB t p = true) (hn : inB n 1 60 = true) (hc : inB c 0 6 = false) :
    Calls Try.prog 29 #[.agg #[.int .i64 t, .int .i64 p], .int .i64 n, .int .i64 c, .int .i64 s] w (RetPuz (ifT (mkB t p n c s) t) (ifT (mkB t p n c s) p) (mkX t p n c s) (mkB t p n c s) w) := by
  have HF : Hid (mkB t p n c s = false) := Lib.hid (by unfold mkB; rw [hg, hn, hc]; simp)
  have HXF : Hid (mkX t p n c s = []) := Lib.hid (by unfold mkX; rw [HF.out]; rfl)
  have HG := Lib.hid (fun W => mpGood_any t p W)
  have HH := Lib.hid (fun W => pzHidden_any n W)
  have HL := Lib.hid (fun W a lo hi => l1In_any a lo hi W)
  have HB0 : Hid (Below w.heap.size w ((w.alloc (.cells #[.int .i64 t, .int .i64 p] 23)).alloc (.cells #[.int .i64 0, .int .i64 0, .slice none 0 0] 63))) := Lib.hid ((below_new w _).alloc (by simp) _)
  have M0 : Hid (Bm ((w.alloc (.cells #[.int .i64 t, .int .i64 p] 23)).alloc (.cells #[.int .i64 0, .int .i64 0, .slice none 0 0] 63)) w.heap.size t p) := Lib.hid ((Bm.new _ _ _ _).keep (below_new _ _))
  have R0 : Hid (BzF ((w.alloc (.cells #[.int .i64 t, .int .i64 p] 23)).alloc (.cells #[.int .i64 0, .int .i64 0, .slice none 0 0] 63)) (w.heap.size + 1) 0 0 (.slice none 0 0)) := Lib.hid (BzF.new _ _ _ _ _ (by simp))
  rw [HXF.out, HF.out]
  rw [ifT_false, ifT_false]
  rw [hg] at HG
  rw [hn] at HH
  go_enter Try.func29, Try.ntmps29
  go_wp2_with (first | (go_at_call 61; refine (HG.out _).mono ?_; rintro e w1 ⟨rfl, hb1⟩; have M1 := Lib.hid (M0.out.keep hb1); have R1 := Lib.hid (R0.out.kept hb1); have HB1 := Lib.hid (HB0.out.trans (hb1.mono HB0.out.size)); clear hb1; obtain ⟨⟨p0, p1⟩, p2⟩ := M1.out; obtain ⟨r0, r1, r2, f0, f1, f2⟩ := R1.out.cells) | (go_at_call 62; refine (HH.out _).mono ?_; rintro e w2 ⟨rfl, rfl⟩) | (go_at_call 47; refine (HL.out _ _ _ _).mono ?_; rintro e w2 ⟨rfl, rfl⟩; first | rw [hs] | rw [hc]))
  obtain ⟨c0, c1, c2⟩ := put3_cells R1.out 0 0 (.slice none 0 0)
  unfold put3 at c0 c1 c2
  refine bodyPost_ret (v := .tuple #[.agg #[.int .i64 0, .int .i64 0, .slice none 0 0], .bool false]) (by simp [results, Try.f29, go_sem, c0, c1, c2]) rfl ⟨_, rfl, ?_, ?_⟩
  · exact (puz_none HB1.out (by omega)).1
  · exact (puz_none HB1.out (by omega)).2

set_option maxRecDepth 100000 in
set_option maxHeartbeats 4000000 in
theorem sMk_s (t p n c s : Int) (w : World) (hg : goodB t p = true) (hn : inB n 1 60 = true) (hc : inB c 0 6 = true) (hs : inB s 0 9999 = false) :
    Calls Try.prog 29 #[.agg #[.int .i64 t, .int .i64 p], .int .i64 n, .int .i64 c, .int .i64 s] w (RetPuz (ifT (mkB t p n c s) t) (ifT (mkB t p n c s) p) (mkX t p n c s) (mkB t p n c s) w) := by
  have HF : Hid (mkB t p n c s = false) := Lib.hid (by unfold mkB; rw [hg, hn, hc, hs]; simp)
  have HXF : Hid (mkX t p n c s = []) := Lib.hid (by unfold mkX; rw [HF.out]; rfl)
  have HG := Lib.hid (fun W => mpGood_any t p W)
  have HH := Lib.hid (fun W => pzHidden_any n W)
  have HL := Lib.hid (fun W a lo hi => l1In_any a lo hi W)
  have HB0 : Hid (Below w.heap.size w ((w.alloc (.cells #[.int .i64 t, .int .i64 p] 23)).alloc (.cells #[.int .i64 0, .int .i64 0, .slice none 0 0] 63))) := Lib.hid ((below_new w _).alloc (by simp) _)
  have M0 : Hid (Bm ((w.alloc (.cells #[.int .i64 t, .int .i64 p] 23)).alloc (.cells #[.int .i64 0, .int .i64 0, .slice none 0 0] 63)) w.heap.size t p) := Lib.hid ((Bm.new _ _ _ _).keep (below_new _ _))
  have R0 : Hid (BzF ((w.alloc (.cells #[.int .i64 t, .int .i64 p] 23)).alloc (.cells #[.int .i64 0, .int .i64 0, .slice none 0 0] 63)) (w.heap.size + 1) 0 0 (.slice none 0 0)) := Lib.hid (BzF.new _ _ _ _ _ (by simp))
  rw [HXF.out, HF.out]
  rw [ifT_false, ifT_false]
  rw [hg] at HG
  rw [hn] at HH
  go_enter Try.func29, Try.ntmps29
  go_wp2_with (first | (go_at_call 61; refine (HG.out _).mono ?_; rintro e w1 ⟨rfl, hb1⟩; have M1 := Lib.hid (M0.out.keep hb1); have R1 := Lib.hid (R0.out.kept hb1); have HB1 := Lib.hid (HB0.out.trans (hb1.mono HB0.out.size)); clear hb1; obtain ⟨⟨p0, p1⟩, p2⟩ := M1.out; obtain ⟨r0, r1, r2, f0, f1, f2⟩ := R1.out.cells) | (go_at_call 62; refine (HH.out _).mono ?_; rintro e w2 ⟨rfl, rfl⟩) | (go_at_call 47; refine (HL.out _ _ _ _).mono ?_; rintro e w2 ⟨rfl, rfl⟩; first | rw [hs] | rw [hc]))
  obtain ⟨c0, c1, c2⟩ := put3_cells R1.out 0 0 (.slice none 0 0)
  unfold put3 at c0 c1 c2
  refine bodyPost_ret (v := .tuple #[.agg #[.int .i64 0, .int .i64 0, .slice none 0 0], .bool false]) (by simp [results, Try.f29, go_sem, c0, c1, c2]) rfl ⟨_, rfl, ?_, ?_⟩
  · exact (puz_none HB1.out (by omega)).1
  · exact (puz_none HB1.out (by omega)).2

set_option maxHeartbeats 1000000 in
theorem pzNext_any (z : Int) (h0 : 0 ≤ z) (h1 : z ≤ 10006) (w : World) :
    Calls Try.prog 64 #[.int .i64 z] w fun e w' => e = .returned (.int .i64 (zN z)) ∧ w = w' := by
  have ht : (127 * z + 2843).tmod 10007 = zN z := Int.tmod_eq_emod_of_nonneg (by omega)
  have hz := zN_in z
  have e1 : IntKind.i64.wrap (127 * z) = 127 * z := IntWalk.i64_in _ (by omega)
  have e2 : IntKind.i64.wrap (127 * z + 2843) = 127 * z + 2843 := IntWalk.i64_in _ (by omega)
  have e3 : IntKind.i64.wrap (zN z) = zN z := IntWalk.i64_in _ (by omega)
  go_enter Try.func64, Try.ntmps64
  go_wp2_with fail
  go_ret
  first | exact ⟨rfl, rfl⟩ | exact ⟨by rw [ht], rfl⟩ | exact ⟨by simp [ht, e1, e2, e3], rfl⟩

set_option maxRecDepth 100000 in
set_option maxHeartbeats 4000000 in
theorem sMk_p (t p n c s : Int) (w : World) (hg : goodB t p = true) (hn : inB n 1 60 = true) (hc : inB c 0 6 = true) (hs : inB s 0 9999 = true) (ha : allB (nx t p) n 21 = false) :
    Calls Try.prog 29 #[.agg #[.int .i64 t, .int .i64 p], .int .i64 n, .int .i64 c, .int .i64 s] w (RetPuz (ifT (mkB t p n c s) t) (ifT (mkB t p n c s) p) (mkX t p n c s) (mkB t p n c s) w) := by
  have HF : Hid (mkB t p n c s = false) := Lib.hid (by unfold mkB; rw [ha]; simp)
  have HXF : Hid (mkX t p n c s = []) := Lib.hid (by unfold mkX; rw [HF.out]; rfl)
  have HG := Lib.hid (fun W => mpGood_any t p W)
  have HH := Lib.hid (fun W => pzHidden_any n W)
  have HL := Lib.hid (fun W a lo hi => l1In_any a lo hi W)
  have HB0 : Hid (Below w.heap.size w ((w.alloc (.cells #[.int .i64 t, .int .i64 p] 23)).alloc (.cells #[.int .i64 0, .int .i64 0, .slice none 0 0] 63))) := Lib.hid ((below_new w _).alloc (by simp) _)
  have M0 : Hid (Bm ((w.alloc (.cells #[.int .i64 t, .int .i64 p] 23)).alloc (.cells #[.int .i64 0, .int .i64 0, .slice none 0 0] 63)) w.heap.size t p) := Lib.hid ((Bm.new _ _ _ _).keep (below_new _ _))
  have R0 : Hid (BzF ((w.alloc (.cells #[.int .i64 t, .int .i64 p] 23)).alloc (.cells #[.int .i64 0, .int .i64 0, .slice none 0 0] 63)) (w.heap.size + 1) 0 0 (.slice none 0 0)) := Lib.hid (BzF.new _ _ _ _ _ (by simp))
  have h60 := inB_hid hn
  have hnum : numB n = true := numB_iff.2 (by omega)
  have HP : Hid (∀ W, Calls Try.prog 63 #[.agg #[.int .i64 t, .int .i64 p], .int .i64 n, .int .i64 20] W (RetPath (pathOr (nx t p) n 20) (allB (nx t p) n 21) W)) := Lib.hid (fun W => mpPath_any t p n 20 W hg hnum (by omega))
  rw [HXF.out, HF.out]
  rw [ifT_false, ifT_false]
  rw [hg] at HG
  rw [hn] at HH
  rw [ha] at HP
  go_enter Try.func29, Try.ntmps29
  go_wp2_with (first | (go_at_call 61; refine (HG.out _).mono ?_; rintro e w1 ⟨rfl, hb1⟩; have M1 := Lib.hid (M0.out.keep hb1); have R1 := Lib.hid (R0.out.kept hb1); have HB1 := Lib.hid (HB0.out.trans (hb1.mono HB0.out.size)); clear hb1; obtain ⟨⟨p0, p1⟩, p2⟩ := M1.out; obtain ⟨r0, r1, r2, f0, f1, f2⟩ := R1.out.cells) | (go_at_call 62; refine (HH.out _).mono ?_; rintro e w2 ⟨rfl, rfl⟩) | (go_at_call 47; refine (HL.out _ _ _ _).mono ?_; rintro e w2 ⟨rfl, rfl⟩; first | rw [hs] | rw [hc]) | (go_at_call 63; refine (HP.out _).mono ?_; rintro e w3 ⟨v3, rfl, _, hb3, _⟩; have M3 := Lib.hid (M1.out.keep hb3); have R3 := Lib.hid (R1.out.kept hb3); have HB3 := Lib.hid (HB1.out.trans (hb3.mono HB1.out.size)); clear hb3 p0 p1 p2 r0 r1 r2 f0 f1 f2; obtain ⟨⟨p0, p1⟩, p2⟩ := M3.out; obtain ⟨r0, r1, r2, f0, f1, f2⟩ := R3.out.cells))
  obtain ⟨c0, c1, c2⟩ := put3_cells R3.out 0 0 (.slice none 0 0)
  unfold put3 at c0 c1 c2
  refine bodyPost_ret (v := .tuple #[.agg #[.int .i64 0, .int .i64 0, .slice none 0 0], .bool false]) (by simp [results, Try.f29, go_sem, c0, c1, c2]) rfl ⟨_, rfl, ?_, ?_⟩
  · exact (puz_none HB3.out (by omega)).1
  · exact (puz_none HB3.out (by omega)).2
end Go.Proofs.Ytkikmmnmppikpaa
