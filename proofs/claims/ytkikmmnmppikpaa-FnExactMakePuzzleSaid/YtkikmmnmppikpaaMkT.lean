/-
  'MakePuzzle' OF THE MODEL, WHERE IT SUCCEEDS.
-/
import Derived.Test.YtkikmmnmppikpaaMkS
import Derived.Deep.AppendLies
namespace Go.Proofs.Ytkikmmnmppikpaa
open Go.RowKit
set_option linter.unusedVariables false

theorem ClsAt.set2 {w : World} {B b : Nat} {v : Value} {qs : List Pt} (h : ClsAt w B v qs) (hb : b < B) (o : Nat) (u : Value) : ClsAt (w.setCell ⟨b, o, none⟩ u) B v qs := by
  refine ⟨h.1, ?_⟩
  rcases h.2 with hn | ⟨g, cap, cur, hv, hB, hg, r⟩
  · exact .inl hn
  · exact .inr ⟨g, cap, cur, hv, hB, (Below.heap_setCell _ _ _ _ (by simp; omega)).trans hg, r⟩
theorem Bm.set2 {w : World} {b c : Nat} {t p : Int} (h : Bm w b t p) (hb : b ≠ c) (o : Nat) (u : Value) : Bm (w.setCell ⟨c, o, none⟩ u) b t p :=
  ⟨⟨(World.cell?_setCell_other _ _ _ _ (by intro e; cases e; exact hb rfl)).trans h.1.1, (World.cell?_setCell_other _ _ _ _ (by intro e; cases e; exact hb rfl)).trans h.1.2⟩, by simpa using h.2⟩
theorem BzF.set2 {w : World} {b c : Nat} {x y : Int} {z : Value} (h : BzF w b x y z) (hb : b ≠ c) (o : Nat) (u : Value) : BzF (w.setCell ⟨c, o, none⟩ u) b x y z :=
  ⟨h.1.of (by simp) (Below.heap_setCell _ _ _ _ (by simpa using hb)), fun o => by rw [World.frozen?_setCell]; exact h.2 o⟩
theorem BzF.kept2 {w w' : World} {b n : Nat} {x y : Int} {z : Value} (h : BzF w b x y z) (hb : Below n w w') (hn : b < n) : BzF w' b x y z :=
  ⟨h.1.of hb.size (hb.block b hn), fun o => (hb.frozen (p := ⟨b, o, none⟩) hn).trans (h.2 o)⟩
theorem BzF.put2 {w : World} {b : Nat} {x y : Int} {z : Value} (h : BzF w b x y z) (u : Value) : BzF (w.setCell ⟨b, 2, none⟩ u) b x y u := by
  obtain ⟨c0, c1, c2, _⟩ := h.cells
  exact ⟨⟨⟨(World.cell?_setCell_other _ _ _ _ (by simp)).trans c0, (World.cell?_setCell_other _ _ _ _ (by simp)).trans c1, World.cell?_setCell_same' _ _ _ (by rw [c2]; rfl)⟩, by simpa using h.1.2⟩, fun o => by rw [World.frozen?_setCell]; exact h.2 o⟩

set_option maxRecDepth 100000 in
set_option maxHeartbeats 8000000 in
theorem sMk_yes (t p n c s : Int) (w : World) (hg : goodB t p = true) (hn : inB n 1 60 = true) (hc : inB c 0 6 = true) (hs : inB s 0 9999 = true) (ha : allB (nx t p) n 21 = true) :
    Calls Try.prog 29 #[.agg #[.int .i64 t, .int .i64 p], .int .i64 n, .int .i64 c, .int .i64 s] w (RetPuz (ifT (mkB t p n c s) t) (ifT (mkB t p n c s) p) (mkX t p n c s) (mkB t p n c s) w) := by
  have HF : Hid (mkB t p n c s = true) := Lib.hid (mkB_iff.2 ⟨hg, hn, hc, hs, ha⟩)
  have HXF : Hid (mkX t p n c s = mkL t p n c.toNat s) := Lib.hid (by unfold mkX; rw [HF.out]; rfl)
  have HG := Lib.hid (fun W => mpGood_any t p W)
  have HH := Lib.hid (fun W => pzHidden_any n W)
  have HL := Lib.hid (fun W a lo hi => l1In_any a lo hi W)
  have HB0 : Hid (Below w.heap.size w ((w.alloc (.cells #[.int .i64 t, .int .i64 p] 23)).alloc (.cells #[.int .i64 0, .int .i64 0, .slice none 0 0] 63))) := Lib.hid ((below_new w _).alloc (by simp) _)
  have M0 : Hid (Bm ((w.alloc (.cells #[.int .i64 t, .int .i64 p] 23)).alloc (.cells #[.int .i64 0, .int .i64 0, .slice none 0 0] 63)) w.heap.size t p) := Lib.hid ((Bm.new _ _ _ _).keep (below_new _ _))
  have R0 : Hid (BzF ((w.alloc (.cells #[.int .i64 t, .int .i64 p] 23)).alloc (.cells #[.int .i64 0, .int .i64 0, .slice none 0 0] 63)) (w.heap.size + 1) 0 0 (.slice none 0 0)) := Lib.hid (BzF.new _ _ _ _ _ (by simp))
  have h60 := inB_hid hn
  have hnum : numB n = true := numB_iff.2 (by omega)
  have HP : Hid (∀ W, Calls Try.prog 63 #[.agg #[.int .i64 t, .int .i64 p], .int .i64 n, .int .i64 20] W (RetPath (pathOr (nx t p) n 20) (allB (nx t p) n 21) W)) := Lib.hid (fun W => mpPath_any t p n 20 W hg hnum (by omega))
  rw [HXF.out, HF.out]
  rw [ifT_true, ifT_true]
  have HGG := Lib.hid hg
  rw [hg] at HG
  rw [hn] at HH
  rw [ha] at HP
  obtain ⟨N, hN⟩ : ∃ N : Nat, c = (N : Int) := ⟨c.toNat, by simp [inB] at hc; omega⟩
  subst hN
  have hN6 : N ≤ 6 := by simp [inB] at hc; omega
  have hs0 : 0 ≤ s ∧ s ≤ 10006 := by simp [inB] at hs; omega
  rw [show ((N : Nat) : Int).toNat = N from rfl]
  obtain ⟨X, hX⟩ : ∃ X, mkL t p n N s = X := ⟨_, rfl⟩
  rw [hX]
  have HX0 : Hid ([] ++ mkL t p n N s = X) := Lib.hid hX
  clear hX
  have HN := Lib.hid (fun W z h0 h1 => pzNext_any z h0 h1 W)
  have HSTEP := Lib.hid (fun L k z (h : L ++ mkL t p n (k + 1) z = X) => mkL_step h)
  obtain ⟨i0, hi, hi0, hi1, hi2⟩ := info_parts infoCl
  clear HXF HF
  go_enter Try.func29, Try.ntmps29
  go_wp2_with (first | (go_at_call 61; refine (HG.out _).mono ?_; rintro e w1 ⟨rfl, hb1⟩; have M1 := Lib.hid (M0.out.keep hb1); have R1 := Lib.hid (R0.out.kept hb1); have HB1 := Lib.hid (HB0.out.trans (hb1.mono HB0.out.size)); clear hb1; obtain ⟨⟨p0, p1⟩, p2⟩ := M1.out; obtain ⟨r0, r1, r2, f0, f1, f2⟩ := R1.out.cells) | (go_at_call 62; refine (HH.out _).mono ?_; rintro e w2 ⟨rfl, rfl⟩) | (go_at_call 47; refine (HL.out _ _ _ _).mono ?_; rintro e w2 ⟨rfl, rfl⟩; first | rw [hs] | rw [hc]) | (go_at_call 63; refine (HP.out _).mono ?_; rintro e w3 ⟨v3, rfl, _, hb3, _⟩; have M3 := Lib.hid (M1.out.keep hb3); have R3 := Lib.hid (R1.out.kept hb3); have HB3 := Lib.hid (HB1.out.trans (hb3.mono HB1.out.size)); clear hb3 p0 p1 p2 r0 r1 r2 f0 f1 f2; obtain ⟨⟨p0, p1⟩, p2⟩ := M3.out; obtain ⟨r0, r1, r2, f0, f1, f2⟩ := R3.out.cells))
  have hR3 : w.heap.size + 1 < w3.heap.size := R3.out.1.2
  have BX0 := Lib.hid (BzF.new w3 t p (.slice none 0 0) 63 rfl)
  have M5 := Lib.hid (M3.out.keep (below_new w3 (.cells #[.int .i64 t, .int .i64 p, .slice none 0 0] 63)))
  have R5 := Lib.hid (R3.out.kept (below_new w3 (.cells #[.int .i64 t, .int .i64 p, .slice none 0 0] 63)))
  have HB5 := Lib.hid (HB3.out.trans ((below_new w3 (.cells #[.int .i64 t, .int .i64 p, .slice none 0 0] 63)).mono HB3.out.size))
  clear p0 p1 p2 r0 r1 r2 f0 f1 f2
  go_loopw [2, 13] (fun cc zz wr => ∃ (k : Nat) (z : Int) (out : Value) (L : List Pt), k ≤ 6 ∧ cc = .int .i64 k ∧ zz = .int .i64 z ∧ 0 ≤ z ∧ z ≤ 10006 ∧ L ++ mkL t p n k z = X ∧ L.length + k ≤ 6 ∧ ClsAt wr (w3.heap.size + 1) out L ∧ Bm wr w.heap.size t p ∧ BzF wr (w.heap.size + 1) 0 0 (.slice none 0 0) ∧ BzF wr w3.heap.size t p out ∧ Below w.heap.size w wr) (fun cc _ _ => (RowKit.intOf cc).toNat)
  case atStart => exact ⟨N, s, _, [], hN6, rfl, rfl, hs0.1, hs0.2, HX0.out, by simpa using hN6, clsAt_nil _ _, M5.out, R5.out, BX0.out, HB5.out⟩
  case round =>
    clear BX0 M5 R5 HB5 HX0 M3 R3 HB3 M1 R1 HB1 HP HH HL HG M0 R0 HB0
    obtain ⟨k, z, out, L, hk6, rfl, rfl, hz0, hz9, hL, hLk, hpa, hm, hr, hbx, hbel⟩ := hrel
    have HPA := Lib.hid hpa
    have HM := Lib.hid hm
    have HR := Lib.hid hr
    have HBX := Lib.hid hbx
    have HBL := Lib.hid hbel
    by_cases hk0 : 0 < k
    · obtain ⟨k', rfl⟩ : ∃ k', k = k' + 1 := ⟨k - 1, by omega⟩
      have HS2 := Lib.hid (HSTEP.out _ _ _ hL)
      have hkp : 0 < ((k' + 1 : Nat) : Int) := by omega
      have hks : ((k' + 1 : Nat) : Int) - 1 = (k' : Int) := by omega
      have hj3 : L.length + 1 ≤ maxLen := by unfold maxLen; omega
      have zi := zN_in z
      have zi2 := zN_in (zN z)
      obtain ⟨ak0, ak1⟩ := kZ_in z
      obtain ⟨aa0, aa1, aa2⟩ := aZ_in z
      obtain ⟨p0, p1⟩ := hm.1
      have HVV := Lib.hid (fun W => pzValue_any t p (kZ z) (aZ z) n W HGG.out hnum (by omega) ak0 ak1 aa0 aa1 aa2)
      have HCE : Hid (mkC t p n z = (kZ z, aZ z, (vlP t p (kZ z) (aZ z) n).1)) := Lib.hid rfl
      have ht5 : (zN z).tmod 5 = kZ z := Int.tmod_eq_emod_of_nonneg (by omega)
      have ht21 : (zN (zN z)).tmod 21 = zN (zN z) % 21 := Int.tmod_eq_emod_of_nonneg (by omega)
      have ht11 : (zN (zN z)).tmod 11 = zN (zN z) % 11 := Int.tmod_eq_emod_of_nonneg (by omega)
      have HA0 := Lib.hid (fun h => aZ_zero (z := z) h)
      have HA1 := Lib.hid (fun h => aZ_other (z := z) h)
      have hm21 : 0 ≤ zN (zN z) % 21 ∧ zN (zN z) % 21 ≤ 20 := by omega
      have hm11 : 0 ≤ zN (zN z) % 11 ∧ zN (zN z) % 11 ≤ 10 := by omega
      generalize zN (zN z) % 21 = A1 at *
      generalize zN (zN z) % 11 = A0 at *
      generalize kZ z = kk at *
      generalize aZ z = aa at *
      generalize (vlP t p kk aa n).1 = V at HVV HCE
      generalize (vlP t p kk aa n).2 = vok at HVV
      obtain ⟨z1, hz1⟩ : ∃ z1, zN z = z1 := ⟨_, rfl⟩
      rw [hz1] at zi zi2 ht5 ht21 ht11 HS2
      obtain ⟨z2, hz2⟩ : ∃ z2, zN z1 = z2 := ⟨_, rfl⟩
      rw [hz2] at zi2 ht21 ht11 HS2
      have HST : Hid ((L ++ [(kk, aa, V)]) ++ mkL t p n k' z2 = X) := Lib.hid (by rw [← HCE.out]; exact HS2.out)
      clear HS2 HCE hL hpa hm hr hbx hbel HSTEP
      by_cases hkz : kk = 0
      · have e := HA0.out hkz
        subst hkz e
        have HV := HVV
        have hw2 : IntKind.i64.wrap (A0 + 2) = A0 + 2 := IntWalk.i64_in _ (by omega)
        clear HA0 HA1 HVV
        go_wp2_with (first | (go_at_call 64; refine (HN.out _ _ (by omega) (by omega)).mono ?_; rintro e wn ⟨rfl, rfl⟩; first | rw [hz1] | rw [hz2]) | (go_at_call 65; refine (HV.out _).mono ?_; rintro e w4 ⟨rfl, hb4⟩; have HPA4 : Hid (ClsAt w4 (w3.heap.size + 1) out L) := Lib.hid (ownsRow_kept HPA.out hb4); have HM4 := Lib.hid (HM.out.keep hb4); have HR4 := Lib.hid (HR.out.kept hb4); have HBX4 := Lib.hid (HBX.out.kept hb4); have HBL4 := Lib.hid (HBL.out.trans (hb4.mono HBL.out.size)); have hw4 : w3.heap.size + 1 ≤ w4.heap.size := HBX4.out.1.2; clear hb4; obtain ⟨y0, y1, y2, y3, y4, y5⟩ := HBX4.out.cells) | (at_builtin; refine wpList_append_own _ rfl _ _ 61 rfl (w3.heap.size + 1) 96 i0 (.agg #[.int .i64 0, .int .i64 0, .int .i64 0]) 3 24 Try.underlying61 hi hi0 hi1 hi2 rfl (by decide) _ _ _ rfl (HPA4.out.alloc _) ⟨w4.heap.size, 0, none⟩ 1 1 [.int .i64 0, .int .i64 (A0 + 2), .int .i64 V] rfl rfl (fun j u hu => three_new _ _ _ _ _ rfl hu) (by simp [Value.oneCell']) hj3 (by omega) (by simp; omega) ?_; intro v5 w5 hown5 hgrow5 _; obtain ⟨g5, cap5, hv5, _, _⟩ := World.ownsRow.form hown5 (Nat.succ_pos _); subst hv5; have hb5 : Below (w3.heap.size + 1) w4 (w4.alloc (.cells #[.int .i64 0, .int .i64 (A0 + 2), .int .i64 V] 96)) := (Below.refl _ w4).alloc hw4 _; have hbg : Below (w3.heap.size + 1) w4 w5 := hb5.grown hgrow5 (by simp; omega) (fun k e => (World.ownsRow.lt HPA4.out k e).1); have d2 := (hbg.cell (p := ⟨w3.heap.size, 2, none⟩) (Nat.lt_succ_self _)).trans HBX4.out.1.1.2.2; have d3 := (hbg.frozen (p := ⟨w3.heap.size, 2, none⟩) (Nat.lt_succ_self _)).trans (HBX4.out.2 2); have HBG := Lib.hid hbg; have HOW := Lib.hid hown5; clear hb5 hbg hown5 hgrow5))
        have hz5 := HBG.out.size
        have h1w : w.heap.size + 1 < w3.heap.size + 1 := by omega
        have hP5 : ClsAt w5 (w3.heap.size + 1) (.slice (some ⟨g5, 0, none⟩) (L.length + 1) cap5) (L ++ [(0, (A0 + 2), V)]) := by
            unfold ClsAt
            rw [ptCells_snoc, List.length_append]
            exact HOW.out
        refine ⟨⟨k', z2, _, L ++ [(0, (A0 + 2), V)], by omega, by first | rfl | go_num, rfl, by omega, by omega, HST.out, by rw [List.length_append]; show L.length + 1 + k' ≤ 6; omega, hP5.set2 (Nat.lt_succ_self _) _ _, (HM4.out.kept HBG.out (by omega)).set2 (by omega) _ _, (HR4.out.kept2 HBG.out (by omega)).set2 (by omega) _ _, (HBX4.out.kept2 HBG.out (Nat.lt_succ_self _)).put2 _, (HBL4.out.trans (HBG.out.mono (by omega))).setCell (p := ⟨w3.heap.size, 2, none⟩) (show w.heap.size ≤ w3.heap.size by omega) _⟩, by first | (simp only [RowKit.intOf]; omega) | simp [RowKit.intOf]⟩

      · have e := HA1.out hkz
        subst e
        have HV := HVV
        have hkb : (kk == 0) = false := by simpa using hkz
        clear HA0 HA1 HVV
        go_wp2_with (first | (go_at_call 64; refine (HN.out _ _ (by omega) (by omega)).mono ?_; rintro e wn ⟨rfl, rfl⟩; first | rw [hz1] | rw [hz2]) | (go_at_call 65; refine (HV.out _).mono ?_; rintro e w4 ⟨rfl, hb4⟩; have HPA4 : Hid (ClsAt w4 (w3.heap.size + 1) out L) := Lib.hid (ownsRow_kept HPA.out hb4); have HM4 := Lib.hid (HM.out.keep hb4); have HR4 := Lib.hid (HR.out.kept hb4); have HBX4 := Lib.hid (HBX.out.kept hb4); have HBL4 := Lib.hid (HBL.out.trans (hb4.mono HBL.out.size)); have hw4 : w3.heap.size + 1 ≤ w4.heap.size := HBX4.out.1.2; clear hb4; obtain ⟨y0, y1, y2, y3, y4, y5⟩ := HBX4.out.cells) | (at_builtin; refine wpList_append_own _ rfl _ _ 61 rfl (w3.heap.size + 1) 96 i0 (.agg #[.int .i64 0, .int .i64 0, .int .i64 0]) 3 24 Try.underlying61 hi hi0 hi1 hi2 rfl (by decide) _ _ _ rfl (HPA4.out.alloc _) ⟨w4.heap.size, 0, none⟩ 1 1 [.int .i64 kk, .int .i64 aa, .int .i64 V] rfl rfl (fun j u hu => three_new _ _ _ _ _ rfl hu) (by simp [Value.oneCell']) hj3 (by omega) (by simp; omega) ?_; intro v5 w5 hown5 hgrow5 _; obtain ⟨g5, cap5, hv5, _, _⟩ := World.ownsRow.form hown5 (Nat.succ_pos _); subst hv5; have hb5 : Below (w3.heap.size + 1) w4 (w4.alloc (.cells #[.int .i64 kk, .int .i64 aa, .int .i64 V] 96)) := (Below.refl _ w4).alloc hw4 _; have hbg : Below (w3.heap.size + 1) w4 w5 := hb5.grown hgrow5 (by simp; omega) (fun k e => (World.ownsRow.lt HPA4.out k e).1); have d2 := (hbg.cell (p := ⟨w3.heap.size, 2, none⟩) (Nat.lt_succ_self _)).trans HBX4.out.1.1.2.2; have d3 := (hbg.frozen (p := ⟨w3.heap.size, 2, none⟩) (Nat.lt_succ_self _)).trans (HBX4.out.2 2); have HBG := Lib.hid hbg; have HOW := Lib.hid hown5; clear hb5 hbg hown5 hgrow5))
        have hz5 := HBG.out.size
        have h1w : w.heap.size + 1 < w3.heap.size + 1 := by omega
        have hP5 : ClsAt w5 (w3.heap.size + 1) (.slice (some ⟨g5, 0, none⟩) (L.length + 1) cap5) (L ++ [(kk, aa, V)]) := by
            unfold ClsAt
            rw [ptCells_snoc, List.length_append]
            exact HOW.out
        refine ⟨⟨k', z2, _, L ++ [(kk, aa, V)], by omega, by first | rfl | go_num, rfl, by omega, by omega, HST.out, by rw [List.length_append]; show L.length + 1 + k' ≤ 6; omega, hP5.set2 (Nat.lt_succ_self _) _ _, (HM4.out.kept HBG.out (by omega)).set2 (by omega) _ _, (HR4.out.kept2 HBG.out (by omega)).set2 (by omega) _ _, (HBX4.out.kept2 HBG.out (Nat.lt_succ_self _)).put2 _, (HBL4.out.trans (HBG.out.mono (by omega))).setCell (p := ⟨w3.heap.size, 2, none⟩) (show w.heap.size ≤ w3.heap.size by omega) _⟩, by first | (simp only [RowKit.intOf]; omega) | simp [RowKit.intOf]⟩

    · obtain rfl : k = 0 := by omega
      have hk1 : ¬ (0 < ((0 : Nat) : Int)) := by omega
      have e : L = X := by rw [← hL]; simp [mkL]
      subst e
      obtain ⟨a9, c9, hout, _⟩ := hpa.prow
      subst hout
      obtain ⟨y0, y1, y2, y3, y4, y5⟩ := hbx.cells
      obtain ⟨r0, r1, r2, f0, f1, f2⟩ := hr.cells
      clear hpa hm hbel
      go_wp2_with fail
      obtain ⟨c0, c1, c2⟩ := put3_cells HR.out t p (.slice a9 L.length c9)
      unfold put3 at c0 c1 c2
      obtain ⟨_, _, _, hpz, hbl⟩ := puz_leaf (t := t) (p := p) HPA.out HBL.out (show w.heap.size ≤ w.heap.size + 1 by omega) (show w.heap.size + 1 < w3.heap.size + 1 by omega)
      refine bodyPost_ret (v := .tuple #[.agg #[.int .i64 t, .int .i64 p, .slice a9 L.length c9], .bool true]) (by simp [results, Try.f29, go_sem, c0, c1, c2]) rfl ⟨_, rfl, ?_, ?_⟩
      · exact hpz
      · exact hbl

/-- 'MakePuzzle' of the model. -/
theorem sMakePuzzle (t p n c s : Int) (w : World) :
    Calls Try.prog 29 #[.agg #[.int .i64 t, .int .i64 p], .int .i64 n, .int .i64 c, .int .i64 s] w (RetPuz (ifT (mkB t p n c s) t) (ifT (mkB t p n c s) p) (mkX t p n c s) (mkB t p n c s) w) := by
  cases hg : goodB t p
  · exact sMk_g t p n c s w hg
  cases hn : inB n 1 60
  · exact sMk_n t p n c s w hg hn
  cases hc : inB c 0 6
  · exact sMk_c t p n c s w hg hn hc
  cases hs : inB s 0 9999
  · exact sMk_s t p n c s w hg hn hc hs
  cases ha : allB (nx t p) n 21
  · exact sMk_p t p n c s w hg hn hc hs ha
  · exact sMk_yes t p n c s w hg hn hc hs ha
end Go.Proofs.Ytkikmmnmppikpaa
