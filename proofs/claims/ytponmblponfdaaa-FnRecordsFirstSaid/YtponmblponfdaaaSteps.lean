/-
  'stepsOf' of the program: the numbers of a path as keys of a map, up to before one comes again: a label, jumped back to.
-/
import Derived.Test.YtponmblponfdaaaSeen
import Derived.Test.YtponmblponfdaaaLeaf
import Derived.Maps.OwnSet
import Derived.Maps.OwnOps
import Derived.ScopeJumps
import Derived.WalkMore
import Derived.Outline
namespace Go.Proofs.Ytponmblponfdaaa
open Go.RowKit Go.Maps
set_option linter.unusedVariables false

theorem keyedInt : Keyed Try.prog 3 := int_keyed Try.underlying3
/-- How many entries a map in a block has. -/
def mapSz (w : World) (b : Nat) : Nat := match w.heap[b]? with
  | some (.map es _) => es.size
  | _ => 0
theorem mapSz_of {w : World} {b k : Nat} {D : DataW Unit} (h : w.ownsMap Try.prog 3 (plainElem Try.prog 3) b k D) : mapSz w b = Maps.size D := by
  obtain ⟨es, clock, h1, _, _, rfl⟩ := h
  unfold mapSz
  rw [h1, size_eq, length_read]
/-- The measure of the jumps. -/
def stepsMu (a : Act) (w : World) : Nat := match a.tmps.getD 7 undef with
  | .map (some b) => 1002 - mapSz w b
  | _ => 0
/-- A walk in a block. -/
structure WalkBox (W : World) (c : Nat) (t p v : Int) : Prop where
  c0 : W.cell? ⟨c, 0, none⟩ = some (.int .i64 t)
  c1 : W.cell? ⟨c, 1, none⟩ = some (.int .i64 p)
  c2 : W.cell? ⟨c, 2, none⟩ = some (.int .i64 v)
  f0 : W.frozen? ⟨c, 0, none⟩ = false
  f1 : W.frozen? ⟨c, 1, none⟩ = false
  f2 : W.frozen? ⟨c, 2, none⟩ = false
theorem WalkBox.kept {W W' : World} {c : Nat} {t p v : Int} (h : WalkBox W c t p v) (hc : c < W.heap.size) (hb : Below W.heap.size W W') : WalkBox W' c t p v :=
  ⟨kept_cell hb hc h.c0, kept_cell hb hc h.c1, kept_cell hb hc h.c2, kept_free hb hc h.f0, kept_free hb hc h.f1, kept_free hb hc h.f2⟩
theorem WalkBox.block {W W' : World} {c : Nat} {t p v : Int} (h : WalkBox W c t p v) (hb : W'.heap[c]? = W.heap[c]?) : WalkBox W' c t p v :=
  ⟨(World.cell?_of_block (w := W) (a := ⟨c, 0, none⟩) hb).trans h.c0, (World.cell?_of_block (w := W) (a := ⟨c, 1, none⟩) hb).trans h.c1, (World.cell?_of_block (w := W) (a := ⟨c, 2, none⟩) hb).trans h.c2,
   (World.frozen?_of_block (w := W) (a := ⟨c, 0, none⟩) hb).trans h.f0, (World.frozen?_of_block (w := W) (a := ⟨c, 1, none⟩) hb).trans h.f1, (World.frozen?_of_block (w := W) (a := ⟨c, 2, none⟩) hb).trans h.f2⟩

theorem ownsMap_below {w w' : World} {b k : Nat} {D : DataW Unit} (h : w.ownsMap Try.prog 3 (plainElem Try.prog 3) b k D) (hb : b < w.heap.size) (hbel : Below w.heap.size w w') : w'.ownsMap Try.prog 3 (plainElem Try.prog 3) b k D := by
  obtain ⟨es, clock, h1, h2, h3, h4⟩ := h
  exact ⟨es, clock, (hbel.block b hb).trans h1, h2, h3, h4⟩

/-- What stepsOf hands back. -/
def RetSteps (f : Int → Int) (n : Int) (o : Option (Nat × Nat)) (w : World) (e : Ending) (w' : World) : Prop :=
  (∃ K i b, o = some (K, i) ∧ e = .returned (.tuple #[.map (some b), .int .i64 (i : Int), .bool true]) ∧ w.heap.size ≤ b ∧ w'.ownsMap Try.prog 3 (plainElem (H := Unit) Try.prog 3) b K (seenD f n K) ∧ Below w.heap.size w w') ∨
  (o = none ∧ e = .returned (.tuple #[.map none, .int .i64 0, .bool false]) ∧ Below w.heap.size w w')

/-- What holds at every jump. -/
def StepsAt (f : Int → Int) (t p n : Int) (w : World) (b c : Nat) (k : Nat) (W : World) : Prop :=
  k ≤ 1001 ∧ fnd f n = fndF f n (1001 - k) k ∧ Diff f n k ∧ allB f n k = true ∧ W.ownsMap Try.prog 3 (plainElem (H := Unit) Try.prog 3) b k (seenD f n k) ∧ WalkBox W c t p (itr f k n) ∧ Below w.heap.size w W ∧ w.heap.size ≤ b ∧ b < c ∧ c < W.heap.size
def StepsJ (t p n : Int) (w : World) (a : Act) (W : World) : Prop :=
  ∃ (b c k : Nat) (u0 u1 u2 u3 u4 u5 u6 u9 u10 u11 u12 u13 u14 u15 u16 u17 u18 u19 u20 u21 u22 u23 u24 u25 u26 u27 u28 u29 u30 u31 u32 u33 u34 u35 u36 u37 u38 u39 u40 u41 u42 u43 u44 u45 : Value), a = { tmps := #[u0, u1, u2, u3, u4, u5, u6, .map (some b), .pointer (some ⟨c, 0, none⟩), u9, u10, u11, u12, u13, u14, u15, u16, u17, u18, u19, u20, u21, u22, u23, u24, u25, u26, u27, u28, u29, u30, u31, u32, u33, u34, u35, u36, u37, u38, u39, u40, u41, u42, u43, u44, u45], defers := [] } ∧ StepsAt (nx t p) t p n w b c k W

set_option maxRecDepth 100000 in
set_option maxHeartbeats 8000000 in
theorem stepsOf_any (t p n : Int) (w : World) (hg : goodB t p = true) :
    Calls Try.prog 78 #[.agg #[.int .i64 t, .int .i64 p], .int .i64 n] w (RetSteps (nx t p) n (fnd (nx t p) n) w) := by
  have HM := Lib.hid (fun w => isMap_any t p w)
  rw [hg] at HM
  have HG := Lib.hid hg
  have hmm := @run_makeMap Try.prog
  clear hg
  go_enter Try.func78, Try.ntmps78
  go_wp2
  refine wp_scope_jumps 0 (StepsJ t p n w) stepsMu rfl ?_ ?_
  · go_wp2_with fail
    refine (HM.out _).mono ?_
    rintro e w1 ⟨rfl, hb1⟩
    obtain ⟨c0, c1, hz, hb⟩ := map_block hb1
    have HB := Lib.hid hb
    have hsz := hb.size
    clear hb1 hb
    go_wp2_with fail
    go_step3
    have hst : StepsAt (nx t p) t p n w w1.heap.size (w1.heap.size + 1) 0 ((w1.alloc (.map #[] 0)).alloc (.cells #[.int .i64 t, .int .i64 p, .int .i64 n] 71)) := by
      refine ⟨by omega, rfl, diff_zero _ _, rfl, ?_, ?_, ?_, hsz, by omega, by simp⟩
      · exact (World.ownsMap_made (H := Unit) _ _ _ _).alloc _
      · refine ⟨?_, ?_, ?_, ?_, ?_, ?_⟩ <;> (go_simp; try rfl)
      · exact (HB.out.alloc hsz _).alloc (by simp; omega) _
    clear hmm c0 c1 hz
    generalize ((w1.alloc (.map #[] 0)).alloc (.cells #[.int .i64 t, .int .i64 p, .int .i64 n] 71)) = W at hst ⊢
    obtain ⟨b, hbb⟩ : ∃ b, b = w1.heap.size := ⟨_, rfl⟩
    obtain ⟨c, hcc⟩ : ∃ c, c = w1.heap.size + 1 := ⟨_, rfl⟩
    rw [← hcc] at hst ⊢
    rw [← hbb] at hst ⊢
    obtain ⟨k, hkk⟩ : ∃ k, k = 0 := ⟨_, rfl⟩
    rw [← hkk] at hst
    clear hbb hcc hkk HB hsz HM
    obtain ⟨hk, hfn, hd, hall, hown, hwk, hbel, hb0, hbc, hcs⟩ := hst
    obtain ⟨v, hv⟩ : ∃ v, itr (nx t p) k n = v := ⟨_, rfl⟩
    have hss := seen_size hd
    have HD := Lib.hid hd
    have HF := Lib.hid hfn
    have HALL := Lib.hid hall
    have HV := Lib.hid hv
    have HB := Lib.hid hbel
    have hbs : w.heap.size ≤ W.heap.size := hbel.size
    have HO := Lib.hid hown
    have HMU := Lib.hid (mapSz_of hown)
    rw [hv] at hwk
    have HW := Lib.hid hwk
    obtain ⟨q0, q1, q2, z0, z1, z2⟩ := hwk
    have HNM := Lib.hid (fun w => isNumber_any v w)
    clear hd hfn hall hbel
    by_cases hk1 : k ≤ 1000
    · have hgt : ¬ (1000 < (k : Int)) := by omega
      by_cases hnum : numB v = true
      · rw [hnum] at HNM
        have HKEY := Lib.hid (keyOf_int_mk (P := Try.prog) Try.underlying3 (numB_wf hnum))
        have HST := Lib.hid (fun w => step_any t p v w HG.out hnum)
        have HNUM := Lib.hid hnum
        have HK2 := Lib.hid (show 1001 - k = (1001 - (k + 1)) + 1 by omega)
        clear hnum
        cases hpos : posOf (nx t p) n k with
        | some i =>
          have HR : Hid (fnd (nx t p) n = some (k, i)) := Lib.hid (by rw [HF.out, HK2.out]; exact fndF_hit (by rw [HV.out]; exact HNUM.out) hpos)
          have hhas : Maps.has (seenD (nx t p) n k) (.int .i64 v) = true := by rw [← HV.out]; exact seen_yes hpos
          have HAT : Hid (∀ z, (seenD (nx t p) n k).atKey (.int .i64 v) z = .lit (.int .i64 (i : Int))) := Lib.hid (fun z => by
            obtain ⟨h1, h2⟩ := posOf_some hpos
            rw [← HV.out, ← h2]
            exact seen_at HD.out h1 z)
          clear hpos hv
          go_wp2_with (first
            | (at_len; refine wpList_len_own _ rfl _ 88 rfl 3 3 Try.underlying88 (plainElem (H := Unit) Try.prog 3) b k _ rfl HO.out ?_)
            | (go_at_call 71; refine (HNM.out _).mono ?_; rintro e w' ⟨rfl, rfl⟩)
            | (at_lookup; refine wpList_lookup_own_ok_int _ rfl _ _ 88 rfl 3 3 .i64 keyedInt Try.underlying88 Try.underlying3 (Try.zeroValue3 _) b k _ rfl HO.out _ _ rfl HKEY.out ?_; intro cc hat hwc; have HC := Lib.hid hat; clear hat hwc))
          simp only [Exit.jump]
          go_ret3
          refine .inl ⟨k, i, b, HR.out, ?_, hb0, HO.out, HB.out⟩
          have := (HAT.out _).symm.trans HC.out
          injection this with e
          rw [key_inj e]
          rfl
        | none =>
          have HR : Hid (fnd (nx t p) n = fndF (nx t p) n (1001 - (k + 1)) (k + 1)) := Lib.hid (by rw [HF.out, HK2.out]; exact fndF_on (by rw [HV.out]; exact HNUM.out) hpos)
          have hhas : Maps.has (seenD (nx t p) n k) (.int .i64 v) = false := by rw [← HV.out]; exact seen_not hpos
          have HD2 := Lib.hid (HD.out.succ hpos)
          clear hpos hv
          go_wp2_with (first
            | (at_len; refine wpList_len_own _ rfl _ 88 rfl 3 3 Try.underlying88 (plainElem (H := Unit) Try.prog 3) b k _ rfl HO.out ?_)
            | (go_at_call 71; refine (HNM.out _).mono ?_; rintro e w' ⟨rfl, rfl⟩)
            | (at_lookup; refine wpList_lookup_own_ok_int _ rfl _ _ 88 rfl 3 3 .i64 keyedInt Try.underlying88 Try.underlying3 (Try.zeroValue3 _) b k _ rfl HO.out _ _ rfl HKEY.out ?_; intro cc hat hwc; clear hat hwc)
            | (at_mapUpdate; refine wpList_mapUpdate_own _ rfl _ _ _ 88 rfl 3 3 keyedInt Try.underlying88 (plainElem (H := Unit) Try.prog 3) b k _ rfl HO.out (by unfold maxLen; omega) _ _ _ rfl rfl HKEY.out _ [] (plainElem_int Try.underlying3 (nat_wf (by omega))) ?_; intro w3 hown3 hgrow3
               have hw3 := (WalkBox.block HW.out (hgrow3.block c hcs (fun e => by cases e; omega)))
               obtain ⟨r0, r1, r2, y0, y1, y2⟩ := hw3
               clear q0 q1 q2 z0 z1 z2))
          refine (HST.out _).mono ?_
          rintro e w4 ⟨rfl, hb4⟩
          have hc3 : c < w3.heap.size := Nat.lt_of_lt_of_le hcs hgrow3.size
          have hb3 : b < w3.heap.size := by omega
          have HB3 := Lib.hid (HB.out.grown hgrow3 HB.out.size (fun k e => by cases e; exact hb0))
          obtain ⟨q0, q1, q2, z0, z1, z2⟩ := WalkBox.kept (⟨r0, r1, r2, y0, y1, y2⟩ : WalkBox w3 c t p v) hc3 hb4
          have HO4 := Lib.hid (ownsMap_below hown3 hb3 hb4)
          have HB4 := Lib.hid (HB3.out.trans (hb4.mono HB3.out.size))
          have hc4 := Nat.lt_of_lt_of_le hc3 hb4.size
          clear r0 r1 r2 y0 y1 y2 hown3 hgrow3 hb4
          go_wp2_with fail
          go_step3
          have hnew : StepsAt (nx t p) t p n w b c (k + 1) (((w4.setCell ⟨c, 0, none⟩ (.int .i64 t)).setCell ⟨c, 1, none⟩ (.int .i64 p)).setCell ⟨c, 2, none⟩ (.int .i64 (nx t p v))) := by
            refine ⟨by omega, HR.out, HD2.out, by rw [allB_succ, HALL.out, HV.out, HNUM.out]; rfl, ?_, ?_, ?_, hb0, hbc, by simpa using hc4⟩
            · have h := HO4.out
              rw [← HV.out] at h
              exact ((h.setCell (a := ⟨c, 0, none⟩) (by dsimp only; omega) _).setCell (a := ⟨c, 1, none⟩) (by dsimp only; omega) _).setCell (a := ⟨c, 2, none⟩) (by dsimp only; omega) _
            · rw [itr_succ, HV.out]
              refine ⟨?_, ?_, ?_, ?_, ?_, ?_⟩ <;> go_simp
            · exact ((HB4.out.setCell (p := ⟨c, 0, none⟩) (by dsimp only; omega) _).setCell (p := ⟨c, 1, none⟩) (by dsimp only; omega) _).setCell (p := ⟨c, 2, none⟩) (by dsimp only; omega) _
          exact ⟨rfl, b, c, k + 1, _, _, _, _, _, _, _, _, _, _, _, _, _, _, _, _, _, _, _, _, _, _, _, _, _, _, _, _, _, _, _, _, _, _, _, _, _, _, _, _, _, _, _, _, rfl, hnew⟩
      · have hnum' : numB v = false := by simpa using hnum
        rw [hnum'] at HNM
        have HR : Hid (fnd (nx t p) n = none) := Lib.hid (by rw [HF.out]; exact fndF_out (by rw [HV.out]; exact hnum'))
        clear hnum hnum' hv
        go_wp2_with (first
          | (at_len; refine wpList_len_own _ rfl _ 88 rfl 3 3 Try.underlying88 (plainElem (H := Unit) Try.prog 3) b k _ rfl HO.out ?_)
          | (go_at_call 71; refine (HNM.out _).mono ?_; rintro e w' ⟨rfl, rfl⟩))
        simp only [Exit.jump]
        go_ret3
        exact .inr ⟨HR.out, rfl, HB.out⟩
    · obtain rfl : k = 1001 := by omega
      have HR : Hid (fnd (nx t p) n = none) := Lib.hid HF.out
      clear hv
      go_wp2_with (first
        | (at_len; refine wpList_len_own _ rfl _ 88 rfl 3 3 Try.underlying88 (plainElem (H := Unit) Try.prog 3) b 1001 _ rfl HO.out ?_))
      simp only [Exit.jump]
      go_ret3
      exact .inr ⟨HR.out, rfl, HB.out⟩
  · clear HM hmm
    rintro a W ⟨b, c, k, u0, u1, u2, u3, u4, u5, u6, u9, u10, u11, u12, u13, u14, u15, u16, u17, u18, u19, u20, u21, u22, u23, u24, u25, u26, u27, u28, u29, u30, u31, u32, u33, u34, u35, u36, u37, u38, u39, u40, u41, u42, u43, u44, u45, rfl, hst⟩
    obtain ⟨hk, hfn, hd, hall, hown, hwk, hbel, hb0, hbc, hcs⟩ := hst
    obtain ⟨v, hv⟩ : ∃ v, itr (nx t p) k n = v := ⟨_, rfl⟩
    have hss := seen_size hd
    have HD := Lib.hid hd
    have HF := Lib.hid hfn
    have HALL := Lib.hid hall
    have HV := Lib.hid hv
    have HB := Lib.hid hbel
    have hbs : w.heap.size ≤ W.heap.size := hbel.size
    have HO := Lib.hid hown
    have HMU := Lib.hid (mapSz_of hown)
    rw [hv] at hwk
    have HW := Lib.hid hwk
    obtain ⟨q0, q1, q2, z0, z1, z2⟩ := hwk
    have HNM := Lib.hid (fun w => isNumber_any v w)
    clear hd hfn hall hbel
    by_cases hk1 : k ≤ 1000
    · have hgt : ¬ (1000 < (k : Int)) := by omega
      by_cases hnum : numB v = true
      · rw [hnum] at HNM
        have HKEY := Lib.hid (keyOf_int_mk (P := Try.prog) Try.underlying3 (numB_wf hnum))
        have HST := Lib.hid (fun w => step_any t p v w HG.out hnum)
        have HNUM := Lib.hid hnum
        have HK2 := Lib.hid (show 1001 - k = (1001 - (k + 1)) + 1 by omega)
        clear hnum
        cases hpos : posOf (nx t p) n k with
        | some i =>
          have HR : Hid (fnd (nx t p) n = some (k, i)) := Lib.hid (by rw [HF.out, HK2.out]; exact fndF_hit (by rw [HV.out]; exact HNUM.out) hpos)
          have hhas : Maps.has (seenD (nx t p) n k) (.int .i64 v) = true := by rw [← HV.out]; exact seen_yes hpos
          have HAT : Hid (∀ z, (seenD (nx t p) n k).atKey (.int .i64 v) z = .lit (.int .i64 (i : Int))) := Lib.hid (fun z => by
            obtain ⟨h1, h2⟩ := posOf_some hpos
            rw [← HV.out, ← h2]
            exact seen_at HD.out h1 z)
          clear hpos hv
          go_wp2_with (first
            | (at_len; refine wpList_len_own _ rfl _ 88 rfl 3 3 Try.underlying88 (plainElem (H := Unit) Try.prog 3) b k _ rfl HO.out ?_)
            | (go_at_call 71; refine (HNM.out _).mono ?_; rintro e w' ⟨rfl, rfl⟩)
            | (at_lookup; refine wpList_lookup_own_ok_int _ rfl _ _ 88 rfl 3 3 .i64 keyedInt Try.underlying88 Try.underlying3 (Try.zeroValue3 _) b k _ rfl HO.out _ _ rfl HKEY.out ?_; intro cc hat hwc; have HC := Lib.hid hat; clear hat hwc))
          simp only [Exit.jump]
          go_ret3
          refine .inl ⟨k, i, b, HR.out, ?_, hb0, HO.out, HB.out⟩
          have := (HAT.out _).symm.trans HC.out
          injection this with e
          rw [key_inj e]
          rfl
        | none =>
          have HR : Hid (fnd (nx t p) n = fndF (nx t p) n (1001 - (k + 1)) (k + 1)) := Lib.hid (by rw [HF.out, HK2.out]; exact fndF_on (by rw [HV.out]; exact HNUM.out) hpos)
          have hhas : Maps.has (seenD (nx t p) n k) (.int .i64 v) = false := by rw [← HV.out]; exact seen_not hpos
          have HD2 := Lib.hid (HD.out.succ hpos)
          clear hpos hv
          go_wp2_with (first
            | (at_len; refine wpList_len_own _ rfl _ 88 rfl 3 3 Try.underlying88 (plainElem (H := Unit) Try.prog 3) b k _ rfl HO.out ?_)
            | (go_at_call 71; refine (HNM.out _).mono ?_; rintro e w' ⟨rfl, rfl⟩)
            | (at_lookup; refine wpList_lookup_own_ok_int _ rfl _ _ 88 rfl 3 3 .i64 keyedInt Try.underlying88 Try.underlying3 (Try.zeroValue3 _) b k _ rfl HO.out _ _ rfl HKEY.out ?_; intro cc hat hwc; clear hat hwc)
            | (at_mapUpdate; refine wpList_mapUpdate_own _ rfl _ _ _ 88 rfl 3 3 keyedInt Try.underlying88 (plainElem (H := Unit) Try.prog 3) b k _ rfl HO.out (by unfold maxLen; omega) _ _ _ rfl rfl HKEY.out _ [] (plainElem_int Try.underlying3 (nat_wf (by omega))) ?_; intro w3 hown3 hgrow3
               have hw3 := (WalkBox.block HW.out (hgrow3.block c hcs (fun e => by cases e; omega)))
               obtain ⟨r0, r1, r2, y0, y1, y2⟩ := hw3
               clear q0 q1 q2 z0 z1 z2))
          refine (HST.out _).mono ?_
          rintro e w4 ⟨rfl, hb4⟩
          have hc3 : c < w3.heap.size := Nat.lt_of_lt_of_le hcs hgrow3.size
          have hb3 : b < w3.heap.size := by omega
          have HB3 := Lib.hid (HB.out.grown hgrow3 HB.out.size (fun k e => by cases e; exact hb0))
          obtain ⟨q0, q1, q2, z0, z1, z2⟩ := WalkBox.kept (⟨r0, r1, r2, y0, y1, y2⟩ : WalkBox w3 c t p v) hc3 hb4
          have HO4 := Lib.hid (ownsMap_below hown3 hb3 hb4)
          have HB4 := Lib.hid (HB3.out.trans (hb4.mono HB3.out.size))
          have hc4 := Nat.lt_of_lt_of_le hc3 hb4.size
          clear r0 r1 r2 y0 y1 y2 hown3 hgrow3 hb4
          go_wp2_with fail
          go_step3
          have hnew : StepsAt (nx t p) t p n w b c (k + 1) (((w4.setCell ⟨c, 0, none⟩ (.int .i64 t)).setCell ⟨c, 1, none⟩ (.int .i64 p)).setCell ⟨c, 2, none⟩ (.int .i64 (nx t p v))) := by
            refine ⟨by omega, HR.out, HD2.out, by rw [allB_succ, HALL.out, HV.out, HNUM.out]; rfl, ?_, ?_, ?_, hb0, hbc, by simpa using hc4⟩
            · have h := HO4.out
              rw [← HV.out] at h
              exact ((h.setCell (a := ⟨c, 0, none⟩) (by dsimp only; omega) _).setCell (a := ⟨c, 1, none⟩) (by dsimp only; omega) _).setCell (a := ⟨c, 2, none⟩) (by dsimp only; omega) _
            · rw [itr_succ, HV.out]
              refine ⟨?_, ?_, ?_, ?_, ?_, ?_⟩ <;> go_simp
            · exact ((HB4.out.setCell (p := ⟨c, 0, none⟩) (by dsimp only; omega) _).setCell (p := ⟨c, 1, none⟩) (by dsimp only; omega) _).setCell (p := ⟨c, 2, none⟩) (by dsimp only; omega) _
          refine ⟨rfl, ⟨b, c, k + 1, _, _, _, _, _, _, _, _, _, _, _, _, _, _, _, _, _, _, _, _, _, _, _, _, _, _, _, _, _, _, _, _, _, _, _, _, _, _, _, _, _, _, _, _, rfl, hnew⟩, ?_⟩
          have h1 := mapSz_of hnew.2.2.2.2.1
          have h2 := HMU.out
          rw [seen_size HD2.out] at h1
          rw [hss] at h2
          simp only [stepsMu, Array.getD]
          simp
          omega
      · have hnum' : numB v = false := by simpa using hnum
        rw [hnum'] at HNM
        have HR : Hid (fnd (nx t p) n = none) := Lib.hid (by rw [HF.out]; exact fndF_out (by rw [HV.out]; exact hnum'))
        clear hnum hnum' hv
        go_wp2_with (first
          | (at_len; refine wpList_len_own _ rfl _ 88 rfl 3 3 Try.underlying88 (plainElem (H := Unit) Try.prog 3) b k _ rfl HO.out ?_)
          | (go_at_call 71; refine (HNM.out _).mono ?_; rintro e w' ⟨rfl, rfl⟩))
        simp only [Exit.jump]
        go_ret3
        exact .inr ⟨HR.out, rfl, HB.out⟩
    · obtain rfl : k = 1001 := by omega
      have HR : Hid (fnd (nx t p) n = none) := Lib.hid HF.out
      clear hv
      go_wp2_with (first
        | (at_len; refine wpList_len_own _ rfl _ 88 rfl 3 3 Try.underlying88 (plainElem (H := Unit) Try.prog 3) b 1001 _ rfl HO.out ?_))
      simp only [Exit.jump]
      go_ret3
      exact .inr ⟨HR.out, rfl, HB.out⟩
end Go.Proofs.Ytponmblponfdaaa
