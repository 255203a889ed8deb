/-
  'MakePuzzle' OF THE PROGRAM, WHERE IT SUCCEEDS.
-/
import Derived.Test.YtkikmmnmppikpaaMkP
import Derived.Deep.AppendLies
import Derived.Deep.RegionLaw
namespace Go.Proofs.Ytkikmmnmppikpaa
open Go.RowKit
set_option linter.unusedVariables false

theorem Zb.new (w : World) (s : Int) (T : TypeId) {b : Nat} (hb : w.heap.size = b) : Zb (w.alloc (.cells #[.int .i64 s] T)) b s := by subst hb; exact ⟨by go_simp, by go_simp, by simp⟩
theorem Bm.touch {w w' : World} {lo hi b : Nat} {t p : Int} (h : Bm w b t p) (ht : Touch lo hi w w') (hd : b < lo ∨ hi ≤ b) : Bm w' b t p :=
  ⟨⟨(World.cell?_of_block (a := ⟨b, 0, none⟩) (ht.block b h.2 hd)).trans h.1.1, (World.cell?_of_block (a := ⟨b, 1, none⟩) (ht.block b h.2 hd)).trans h.1.2⟩, Nat.lt_of_lt_of_le h.2 ht.size⟩
theorem BzF.touch {w w' : World} {lo hi b : Nat} {x y : Int} {z : Value} (h : BzF w b x y z) (ht : Touch lo hi w w') (hd : b < lo ∨ hi ≤ b) : BzF w' b x y z :=
  ⟨h.1.touch ht hd, fun o => (World.frozen?_of_block (a := ⟨b, o, none⟩) (ht.block b h.1.2 hd)).trans (h.2 o)⟩
theorem ClsAt.touch {w w' : World} {lo hi B : Nat} {v : Value} {qs : List Pt} (h : ClsAt w B v qs) (ht : Touch lo hi w w') (hd : hi ≤ B) : ClsAt w' B v qs := by
  refine ⟨h.1, ?_⟩
  rcases h.2 with hn | ⟨g, cap, cur, hv, hB, hg, r⟩
  · exact .inl hn
  · exact .inr ⟨g, cap, cur, hv, hB, (ht.block g (Array.getElem?_eq_some_iff.1 hg).1 (.inr (by omega))).trans hg, r⟩

set_option maxRecDepth 100000 in
set_option maxHeartbeats 8000000 in
theorem iMk_yes (t p n c s : Int) (w : World) (hn : inB n 1 60 = true) (hc0 : 0 ≤ c) (hc : c ≤ 6) (hs0 : 0 ≤ s) (hs : s ≤ 9999) (hga : (goodB t p && allB (nx t p) n 21) = true) :
    Calls Try.prog 31 #[.agg #[.int .i64 t, .int .i64 p], .int .i64 n, .int .i64 c, .int .i64 s] w (RetPuz (ifT (mkB t p n c s) t) (ifT (mkB t p n c s) p) (mkX t p n c s) (mkB t p n c s) w) := by
  have h60 := inB_hid hn
  have hn0 : 0 ≤ n := by omega
  have HF : Hid (mkB t p n c s = true) := Lib.hid (by rw [Bool.and_eq_true] at hga; exact mkB_iff.2 ⟨hga.1, hn, by simp [inB]; omega, by simp [inB]; omega, hga.2⟩)
  have HXF : Hid (mkX t p n c s = mkL t p n c.toNat s) := Lib.hid (by unfold mkX; rw [HF.out]; rfl)
  have HH := Lib.hid (fun W => isHidden_any n W)
  have HB0 : Hid (Below w.heap.size w ((w.alloc (.cells #[.int .i64 t, .int .i64 p] 23)).alloc (.cells #[.int .i64 0, .int .i64 0, .slice none 0 0] 63))) := Lib.hid ((below_new w _).alloc (by simp) _)
  have M0 : Hid (Bm ((w.alloc (.cells #[.int .i64 t, .int .i64 p] 23)).alloc (.cells #[.int .i64 0, .int .i64 0, .slice none 0 0] 63)) w.heap.size t p) := Lib.hid ((Bm.new _ _ _ _).keep (below_new _ _))
  have R0 : Hid (BzF ((w.alloc (.cells #[.int .i64 t, .int .i64 p] 23)).alloc (.cells #[.int .i64 0, .int .i64 0, .slice none 0 0] 63)) (w.heap.size + 1) 0 0 (.slice none 0 0)) := Lib.hid (BzF.new _ _ _ _ _ (by simp))
  have HP := Lib.hid (fun W => iNumberAfter t p n 20 W)
  rw [mk_aft (numB_iff.2 (by omega)), hga] at HP
  rw [HXF.out, HF.out]
  rw [ifT_true, ifT_true]
  rw [hn] at HH
  obtain ⟨N, hN⟩ : ∃ N : Nat, c = (N : Int) := ⟨c.toNat, by omega⟩
  subst hN
  have hN6 : N ≤ 6 := by omega
  rw [show ((N : Nat) : Int).toNat = N from rfl]
  obtain ⟨X, hX⟩ : ∃ X, mkL t p n N s = X := ⟨_, rfl⟩
  rw [hX]
  have HX0 : Hid ([] ++ mkL t p n (N - 0) s = X) := Lib.hid hX
  have HSTEP := Lib.hid (fun L k z (h : L ++ mkL t p n (k + 1) z = X) => mkL_step h)
  obtain ⟨i0, hi, hi0, hi1, hi2⟩ := info_parts infoCl
  clear HXF HF hX hga
  go_enter Try.func31, Try.ntmps31
  go_upto_region 1 with fail
  generalize ((w.alloc (.cells #[.int .i64 t, .int .i64 p] 23)).alloc (.cells #[.int .i64 0, .int .i64 0, .slice none 0 0] 63)) = w1 at HB0 M0 R0 ⊢
  obtain ⟨⟨p0, p1⟩, p2⟩ := M0.out
  obtain ⟨r0, r1, r2, f0, f1, f2⟩ := R0.out.cells
  go_wp2_with (first | (go_at_call 66; refine (HH.out _).mono ?_; rintro e w2 ⟨rfl, rfl⟩) | (go_at_call 67; refine (HP.out _).mono ?_; rintro e w3 ⟨rfl, hb3⟩; have M3 := Lib.hid (M0.out.keep hb3); have R3 := Lib.hid (R0.out.kept hb3); have HB3 := Lib.hid (HB0.out.trans (hb3.mono HB0.out.size)); clear hb3 p0 p1 p2 r0 r1 r2 f0 f1 f2; obtain ⟨⟨p0, p1⟩, p2⟩ := M3.out; obtain ⟨r0, r1, r2, f0, f1, f2⟩ := R3.out.cells) | (go_at_call 68; refine (numbersFrom_any s _).mono ?_; rintro e w4 ⟨rfl, hw4⟩))
  have hR3 : w.heap.size + 1 < w3.heap.size := R3.out.1.2
  have hb5 : Below w3.heap.size w3 ((w3.alloc (.cells #[.int .i64 t, .int .i64 p, .slice none 0 0] 63)).alloc (.cells #[.int .i64 s] 3)) := (below_new w3 _).alloc (by simp) _
  have BX4 : Hid (BzF ((w3.alloc (.cells #[.int .i64 t, .int .i64 p, .slice none 0 0] 63)).alloc (.cells #[.int .i64 s] 3)) w3.heap.size t p (.slice none 0 0)) := Lib.hid ((BzF.new w3 t p (.slice none 0 0) 63 rfl).kept (below_new _ _))
  have Z4 : Hid (Zb ((w3.alloc (.cells #[.int .i64 t, .int .i64 p, .slice none 0 0] 63)).alloc (.cells #[.int .i64 s] 3)) (w3.heap.size + 1) s) := Lib.hid (Zb.new _ s 3 (by simp))
  have M4 := Lib.hid (M3.out.keep hb5)
  have R4 := Lib.hid (R3.out.kept hb5)
  have HB4 := Lib.hid (HB3.out.trans (hb5.mono HB3.out.size))
  rw [hw4] at BX4 Z4 M4 R4 HB4
  clear hw4 hb5 p0 p1 p2 r0 r1 r2 f0 f1 f2 M0 R0 HB0 M3 R3 HB3 HP HH
  go_loopw [48] (fun ii wr => ∃ (j : Nat) (z : Int) (out : Value) (L : List Pt), j ≤ N ∧ ii = .int .i64 j ∧ 0 ≤ z ∧ z ≤ 10006 ∧ L ++ mkL t p n (N - j) z = X ∧ L.length = j ∧ ClsAt wr (w3.heap.size + 2) out L ∧ Bm wr w.heap.size t p ∧ BzF wr (w.heap.size + 1) 0 0 (.slice none 0 0) ∧ BzF wr w3.heap.size t p out ∧ Zb wr (w3.heap.size + 1) z ∧ Below w.heap.size w wr) (fun ii _ => N - (RowKit.intOf ii).toNat)
  case atStart => exact ⟨0, s, _, [], Nat.zero_le _, rfl, hs0, by omega, HX0.out, rfl, clsAt_nil _ _, M4.out, R4.out, BX4.out, Z4.out, HB4.out⟩
  case round =>
    clear BX4 Z4 M4 R4 HB4 HX0
    obtain ⟨j, z, out, L, hj, rfl, hz0, hz9, hL, hLj, hpa, hm, hr, hbx, hzb, hbel⟩ := hrel
    obtain ⟨a9, c9, hout, _⟩ := hpa.prow
    subst hout
    have HPA := Lib.hid hpa
    have HM := Lib.hid hm
    have HR := Lib.hid hr
    have HBX := Lib.hid hbx
    have HZ := Lib.hid hzb
    have HBL := Lib.hid hbel
    have hsz := hzb.2.2
    by_cases hlt : j < N
    · have hlt2 : (j : Int) < (N : Int) := by omega
      have hj3 : L.length + 1 ≤ maxLen := by unfold maxLen; omega
      have HLJ := Lib.hid hLj
      have hLL : L.length ≤ 6 := by omega
      clear hLj
      have HST := Lib.hid (HSTEP.out L (N - (j + 1)) z (by rw [show N - (j + 1) + 1 = N - j by omega]; exact hL))
      have hzi := zN_in (zN z)
      obtain ⟨p0, p1⟩ := hm.1
      obtain ⟨y0, y1, y2, y3, y4, y5⟩ := hbx.cells
      have HCE : Hid (mkC t p n z = (kZ z, aZ z, (vlP t p (kZ z) (aZ z) n).1)) := Lib.hid rfl
      clear hpa hm hr hbx hzb hbel hL
      generalize hkk : kZ z = kk at HCE
      generalize haa : aZ z = aa at HCE
      generalize hV : (vlP t p kk aa n).1 = V at HCE
      have HMC := Lib.hid (fun W (h : Zb W (w3.heap.size + 1) z) => makeClue_any t p n z (w3.heap.size + 1) W hn0 hz0 hz9 h)
      rw [hkk, haa, hV] at HMC
      clear hkk haa hV
      have nm1 : ¬ (w3.heap.size = w.heap.size) := by omega
      have nm2 : ¬ (w.heap.size = w3.heap.size) := by omega
      go_upto_region 10 with fail
      go_region_law (first
        | (go_simp; go_at_call 69; refine (HMC.out _ (by first | exact HZ.out | exact HZ.out.kept (Below.refl (w3.heap.size + 1 + 1) _).drew (Nat.lt_succ_self _))).mono ?_; rintro e w5 ⟨rfl, hT, hZ5⟩; have HT5 : Hid (Touch (w3.heap.size + 1) (w3.heap.size + 1 + 1) wr w5) := Lib.hid (by first | exact hT | exact (Touch.of_below (Below.refl _ _).drew).trans hT); have HZ5 := Lib.hid hZ5; clear hT hZ5; have M5 := Lib.hid (HM.out.touch HT5.out (.inl (by omega))); have BX5 := Lib.hid (HBX.out.touch HT5.out (.inl (by omega))); have PA5 := Lib.hid (HPA.out.touch HT5.out (by omega)); obtain ⟨⟨p0, p1⟩, p2⟩ := M5.out; obtain ⟨y0, y1, y2, y3, y4, y5⟩ := BX5.out.cells; have hsz5 := HT5.out.size; have nz1 : ¬ (w5.heap.size = w3.heap.size) := (by omega); have yb2 := ((below_new w5 (.cells #[.int .i64 kk, .int .i64 aa, .int .i64 V] 96)).cell (p := ⟨w3.heap.size, 2, none⟩) BX5.out.1.2).trans y2; have yb3 := ((below_new w5.drew (.cells #[.int .i64 kk, .int .i64 aa, .int .i64 V] 96)).cell (p := ⟨w3.heap.size, 2, none⟩) BX5.out.1.2).trans y2; have nz2 : ¬ (w3.heap.size = w5.heap.size) := (by omega); have nz3 : ¬ (w5.heap.size = w.heap.size) := (by omega); have nz4 : ¬ (w.heap.size = w5.heap.size) := (by omega))
        | (refine step_append_own_at rfl (.tmp 51) (.tmp 56) 61 rfl (w3.heap.size + 2) 96 i0 (.agg #[.int .i64 0, .int .i64 0, .int .i64 0]) 3 24 Try.underlying61 hi hi0 hi1 hi2 rfl (by decide) (.slice a9 L.length c9) L.length (ptCells L) (by simp [Act.eval]) (by first | exact ownsRow_kept PA5.out (below_new w5 _) | exact (ownsRow_kept PA5.out (below_new w5 _)).drew | exact ownsRow_kept PA5.out.drew (below_new w5.drew _)) ⟨w5.heap.size, 0, none⟩ 1 1 [Value.int .i64 kk, Value.int .i64 aa, Value.int .i64 V] (by simp [Act.eval]) rfl (fun j u hu => three_new _ _ _ _ _ rfl hu) (by simp [Value.oneCell']) hj3 (by omega) (by simp; omega) ?_; intro v6 w6 hown6 hgrow6 _; have HB6 : Hid (Below (w3.heap.size + 2) w5 w6) := Lib.hid (((Below.refl (w3.heap.size + 2) w5).alloc (by omega) _).grown hgrow6 (by simp; omega) (fun k e => (World.ownsRow.lt PA5.out k e).1)); have BX6 := Lib.hid (BX5.out.kept2 HB6.out (by omega)); obtain ⟨g6, cap6, hv6, _, _⟩ := World.ownsRow.form hown6 (Nat.succ_pos _); subst hv6; have HO6 := Lib.hid hown6; clear hown6 hgrow6; obtain ⟨yy0, yy1, yy2, yy3, yy4, yy5⟩ := BX6.out.cells; have M6 := Lib.hid (M5.out.kept HB6.out (by omega)); obtain ⟨⟨pp0, pp1⟩, pp2⟩ := M6.out))
      all_goals
        have hP6 : ClsAt w6 (w3.heap.size + 2) (.slice (some ⟨g6, 0, none⟩) (L.length + 1) cap6) (L ++ [(kk, aa, V)]) := by
          unfold ClsAt
          rw [ptCells_snoc, List.length_append]
          exact HO6.out
        have HP6 := Lib.hid hP6
        have R6 := Lib.hid ((HR.out.touch HT5.out (.inl (by omega))).kept2 HB6.out (by omega))
        have Z6 := Lib.hid (HZ5.out.kept HB6.out (Nat.lt_succ_self _))
        have hzw : w.heap.size ≤ wr.heap.size := by omega
        have BL6 := Lib.hid ((HBL.out.trans (HT5.out.below (by omega) hzw)).trans (HB6.out.mono (by omega)))
        have HST2 : Hid ((L ++ [(kk, aa, V)]) ++ mkL t p n (N - (j + 1)) (zN (zN z)) = X) := Lib.hid (by rw [← HCE.out]; exact HST.out)
        clear hP6 yy0 yy1 yy2 yy3 yy4 yy5 pp0 pp1 pp2
        go_wp2_with fail
        exact ⟨⟨j + 1, zN (zN z), _, L ++ [(kk, aa, V)], hlt, by go_num, hzi.1, hzi.2, HST2.out, by rw [List.length_append, HLJ.out]; rfl, HP6.out.set2 (by omega) _ _, M6.out.set2 (by omega) _ _, R6.out.set2 (by omega) _ _, BX6.out.put2 _, Z6.out.set2 (by omega) _ _, BL6.out.setCell (p := ⟨w3.heap.size, 2, none⟩) (show w.heap.size ≤ w3.heap.size by omega) _⟩, by simp only [RowKit.intOf]; omega⟩
    · obtain rfl : j = N := by omega
      have hlt2 : ¬ ((j : Int) < (j : Int)) := by omega
      have e : L = X := by rw [← hL, Nat.sub_self]; simp [mkL]
      subst e
      obtain ⟨y0, y1, y2, y3, y4, y5⟩ := hbx.cells
      obtain ⟨r0, r1, r2, f0, f1, f2⟩ := hr.cells
      have n1 : ¬ (w.heap.size + 1 = w3.heap.size) := by omega
      have n2 : ¬ (w3.heap.size = w.heap.size + 1) := by omega
      clear hpa hm hbel hLj HSTEP
      go_wp2_with fail
      obtain ⟨c0, c1, c2⟩ := put3_cells HR.out t p (.slice a9 L.length c9)
      unfold put3 at c0 c1 c2
      obtain ⟨_, _, _, hpz, hbl⟩ := puz_leaf (t := t) (p := p) HPA.out HBL.out (show w.heap.size ≤ w.heap.size + 1 by omega) (show w.heap.size + 1 < w3.heap.size + 2 by omega)
      refine bodyPost_ret (v := .tuple #[.agg #[.int .i64 t, .int .i64 p, .slice a9 L.length c9], .bool true]) (by simp [results, Try.f31, go_sem, c0, c1, c2]) rfl ⟨_, rfl, ?_, ?_⟩
      · exact hpz
      · exact hbl

/-- 'MakePuzzle' of the program. -/
theorem iMakePuzzle (t p n c s : Int) (w : World) :
    Calls Try.prog 31 #[.agg #[.int .i64 t, .int .i64 p], .int .i64 n, .int .i64 c, .int .i64 s] w (RetPuz (ifT (mkB t p n c s) t) (ifT (mkB t p n c s) p) (mkX t p n c s) (mkB t p n c s) w) := by
  cases hn : inB n 1 60
  · exact iMk_n t p n c s w hn
  by_cases h1 : c < 0
  · exact iMk_c0 t p n c s w hn h1
  by_cases h2 : 6 < c
  · exact iMk_c6 t p n c s w hn (by omega) h2
  by_cases h3 : s < 0
  · exact iMk_s0 t p n c s w hn (by omega) (by omega) h3
  by_cases h4 : 9999 < s
  · exact iMk_s9 t p n c s w hn (by omega) (by omega) (by omega) h4
  cases h5 : (goodB t p && allB (nx t p) n 21)
  · exact iMk_p t p n c s w hn (by omega) (by omega) (by omega) (by omega) h5
  · exact iMk_yes t p n c s w hn (by omega) (by omega) (by omega) (by omega) h5
end Go.Proofs.Ytkikmmnmppikpaa
