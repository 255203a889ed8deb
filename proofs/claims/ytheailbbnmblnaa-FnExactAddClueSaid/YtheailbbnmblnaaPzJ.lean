/-
  'IsClue', 'IsPuzzle', 'DoesFit' of the program, 'DoesFit' of the model.
-/
import Derived.Test.YtheailbbnmblnaaDem
import Derived.Test.YtheailbbnmblnaaFit
namespace Go.Proofs.Ytheailbbnmblnaa
open Go.RowKit
set_option linter.unusedVariables false

theorem clIn_one {w : World} {g : Nat} {k a b : Int} (hg : g < w.heap.size) (h : PtCell w g 0 (k, a, b)) : ClIn w (some ⟨g, 0, none⟩) [(k, a, b)] := by
  intro j hj
  obtain rfl : j = 0 := by simpa using hj
  exact ⟨g, 0, rfl, hg, h⟩
theorem one_clB (q : Pt) : [q].all clB = clB q := by simp

theorem isClue_any (k a b : Int) (w : World) :
    Calls Try.prog 17 #[.agg #[.int .i64 k, .int .i64 a, .int .i64 b]] w fun e w' => e = .returned (.bool (clB (k, a, b))) ∧ Below w.heap.size w w' := by
  have HB := Lib.hid ((below_new w (.cells #[.int .i64 k, .int .i64 a, .int .i64 b] 25)).trans ((below_new (w.alloc (.cells #[.int .i64 k, .int .i64 a, .int .i64 b] 25)) (.cells #[.int .i64 k, .int .i64 a, .int .i64 b] 25)).mono (by simp)))
  have HC := Lib.hid (hasNone_any [(k, a, b)] (some ⟨w.heap.size + 1, 0, none⟩) 1 ((w.alloc (.cells #[.int .i64 k, .int .i64 a, .int .i64 b] 25)).alloc (.cells #[.int .i64 k, .int .i64 a, .int .i64 b] 25)) (by simp) (clIn_one (by simp) ⟨by go_simp, by go_simp, by go_simp⟩))
  have HE := Lib.hid (one_clB (k, a, b))
  generalize clB (k, a, b) = r at HE ⊢
  generalize [(k, a, b)].all clB = s at HC HE
  go_enter Try.func17, Try.ntmps17
  go_wp2_with fail
  refine HC.out.mono ?_
  rintro e w1 ⟨rfl, hb1⟩
  have HB1 := Lib.hid (HB.out.trans (hb1.mono HB.out.size))
  clear hb1
  go_wp2_with fail
  go_ret
  exact ⟨ret_bool HE.out, HB1.out⟩

theorem pzB_eq (t p : Int) (ps : List Pt) : pzB t p ps = (goodB t p && decide (ps.length ≤ 6) && !(!ps.all clB)) := by simp [pzB]

set_option maxHeartbeats 1000000 in
theorem isPuzzle_any (t p : Int) (ps : List Pt) (v : Value) (w : World) (hl : ps.length ≤ 1048576) (h : PuzIn w v t p ps) :
    Calls Try.prog 21 #[v] w fun e w' => e = .returned (.bool (pzB t p ps)) ∧ Below w.heap.size w w' := by
  obtain ⟨a, c, rfl, _, hx⟩ := h.cl
  clear h
  have HB := Lib.hid (below_new w (.cells #[.int .i64 t, .int .i64 p, .slice a ps.length c] 38))
  have B := Lib.hid (Bz.new w t p (.slice a ps.length c) 38)
  have HG := Lib.hid (fun W => isMap_any t p W)
  have HN := Lib.hid (fun W (hb : Below w.heap.size w W) => hasNone_any ps a c W hl (hx.keep hb))
  have HE := Lib.hid (pzB_eq t p ps)
  have hK : (ps.length : Int) ≤ 1048576 := by omega
  generalize pzB t p ps = r at HE ⊢
  generalize ps.all clB = s at HN HE
  generalize goodB t p = g at HG HE
  obtain ⟨K, hKK⟩ : ∃ K, K = ps.length := ⟨_, rfl⟩
  rw [← hKK] at HB B HN HE hK ⊢
  clear hx hl hKK
  cases g
  · go_enter Try.func21, Try.ntmps21
    go_wp2_with (go_at_call 54; refine (HG.out _).mono ?_; rintro e w1 ⟨rfl, hb1⟩; have HB1 := Lib.hid (HB.out.trans (hb1.mono HB.out.size)); clear hb1)
    go_ret
    exact ⟨ret_bool (by rw [HE.out]; rfl), HB1.out⟩
  · by_cases h6 : (K : Int) ≤ 6
    · have hd : decide ((K : Int) ≤ 6) = true := by simpa using h6
      have HD : Hid (decide (K ≤ 6) = true) := Lib.hid (by simp; omega)
      go_enter Try.func21, Try.ntmps21
      go_wp2_with (go_at_call 54; refine (HG.out _).mono ?_; rintro e w1 ⟨rfl, hb1⟩; have HB1 := Lib.hid (HB.out.trans (hb1.mono HB.out.size)); obtain ⟨⟨p0, p1, p2⟩, p3⟩ := (B.out.kept hb1); clear hb1)
      refine (HN.out _ HB1.out).mono ?_
      rintro e w2 ⟨rfl, hb2⟩
      have HB2 := Lib.hid (HB1.out.trans (hb2.mono HB1.out.size))
      clear hb2
      go_wp2_with fail
      go_ret
      exact ⟨ret_bool (by rw [HE.out, HD.out]; simp), HB2.out⟩
    · have hd : decide ((K : Int) ≤ 6) = false := by simpa using h6
      have HD : Hid (decide (K ≤ 6) = false) := Lib.hid (by simp; omega)
      go_enter Try.func21, Try.ntmps21
      go_wp2_with (go_at_call 54; refine (HG.out _).mono ?_; rintro e w1 ⟨rfl, hb1⟩; have HB1 := Lib.hid (HB.out.trans (hb1.mono HB.out.size)); obtain ⟨⟨p0, p1, p2⟩, p3⟩ := (B.out.kept hb1); clear hb1)
      go_ret
      exact ⟨ret_bool (by rw [HE.out, HD.out]; simp), HB1.out⟩

theorem isHidden_any (n : Int) (w : World) :
    Calls Try.prog 60 #[.int .i64 n] w fun e w' => e = .returned (.bool (inB n 1 60)) ∧ w = w' := by
  have HE : Hid (inB n 1 60 = (decide (1 ≤ n) && decide (n ≤ 60))) := Lib.hid (by unfold inB; rw [Bool.decide_and])
  by_cases h1 : 1 ≤ n
  · go_enter Try.func60, Try.ntmps60
    go_wp2
    go_ret
    exact ⟨ret_bool (by rw [HE.out, show decide (1 ≤ n) = true by simpa using h1]; simp), rfl⟩
  · go_enter Try.func60, Try.ntmps60
    go_wp2
    go_ret
    exact ⟨ret_bool (by rw [HE.out, show decide (1 ≤ n) = false by simpa using h1]; simp), rfl⟩

theorem pzHidden_any (n : Int) (w : World) :
    Calls Try.prog 58 #[.int .i64 n] w fun e w' => e = .returned (.bool (inB n 1 60)) ∧ w = w' := by
  have HL := Lib.hid (fun W => l1In_any n 1 60 W)
  generalize inB n 1 60 = r at HL ⊢
  go_enter Try.func58, Try.ntmps58
  go_wp2_with fail
  refine (HL.out _).mono ?_
  rintro e w1 ⟨rfl, rfl⟩
  go_wp2_with fail
  go_ret
  exact ⟨rfl, rfl⟩

/-- What DoesFit comes to. -/
def dfA (t p : Int) (q : Pt) (n : Int) : Bool := goodB t p && clB q && inB n 1 60
def dfX (t p : Int) (q : Pt) (n : Int) : Bool := dfA t p q n && fitP t p q n
theorem inB_hid {n : Int} (h : inB n 1 60 = true) : 1 ≤ n ∧ n ≤ 60 := by simpa [inB] using h

set_option maxHeartbeats 2000000 in
theorem iDoesFit (t p k a b n : Int) (w : World) :
    Calls Try.prog 25 #[.agg #[.int .i64 t, .int .i64 p], .agg #[.int .i64 k, .int .i64 a, .int .i64 b], .int .i64 n] w fun e w' => e = .returned (.tuple #[.bool (dfX t p (k, a, b) n), .bool (dfA t p (k, a, b) n)]) ∧ Below w.heap.size w w' := by
  have HB := Lib.hid ((below_new w (.cells #[.int .i64 t, .int .i64 p] 35)).trans ((below_new (w.alloc (.cells #[.int .i64 t, .int .i64 p] 35)) (.cells #[.int .i64 k, .int .i64 a, .int .i64 b] 25)).mono (by simp)))
  have HK := Lib.hid (fun w1 (hb : Below ((w.alloc (.cells #[.int .i64 t, .int .i64 p] 35)).alloc (.cells #[.int .i64 k, .int .i64 a, .int .i64 b] 25)).heap.size ((w.alloc (.cells #[.int .i64 t, .int .i64 p] 35)).alloc (.cells #[.int .i64 k, .int .i64 a, .int .i64 b] 25)) w1) => And.intro (((Bm.new w t p 35).keep (below_new _ (.cells #[.int .i64 k, .int .i64 a, .int .i64 b] 25))).keep hb) (show PtCell w1 (w.heap.size + 1) 0 (k, a, b) from PtCell.of ⟨by go_simp, by go_simp, by go_simp⟩ (hb.block _ (by simp))))
  have HG := Lib.hid (fun W => isMap_any t p W)
  have HC := Lib.hid (fun W => isClue_any k a b W)
  have HH := Lib.hid (fun W => isHidden_any n W)
  have HA : Hid (dfA t p (k, a, b) n = (goodB t p && clB (k, a, b) && inB n 1 60)) := Lib.hid rfl
  have HX : Hid (dfX t p (k, a, b) n = (dfA t p (k, a, b) n && fitP t p (k, a, b) n)) := Lib.hid rfl
  cases hg : goodB t p
  · rw [hg] at HG HA
    have HA2 : Hid (dfA t p (k, a, b) n = false) := Lib.hid (by rw [HA.out]; rfl)
    have HX2 : Hid (dfX t p (k, a, b) n = false) := Lib.hid (by rw [HX.out, HA2.out]; rfl)
    rw [HA2.out, HX2.out]
    clear hg
    go_enter Try.func25, Try.ntmps25
    go_wp2_with (first
      | (go_at_call 54; refine (HG.out _).mono ?_; rintro e w1 ⟨rfl, hb1⟩; have HB1 := Lib.hid (HB.out.trans (hb1.mono HB.out.size)); obtain ⟨⟨⟨p0, p1⟩, p2⟩, q0, q1, q2⟩ := HK.out _ hb1; have HK1 := Lib.hid (fun w2 (hb2 : Below w1.heap.size w1 w2) => HK.out _ (hb1.trans (hb2.mono hb1.size))); clear hb1)
      | (go_at_call 17; refine (HC.out _).mono ?_; rintro e w2 ⟨rfl, hb2⟩; have HB2 := Lib.hid (HB1.out.trans (hb2.mono HB1.out.size)); clear p0 p1 p2 q0 q1 q2; obtain ⟨⟨⟨p0, p1⟩, p2⟩, q0, q1, q2⟩ := HK1.out _ hb2; clear hb2)
      | (go_at_call 60; refine (HH.out _).mono ?_; rintro e w3 ⟨rfl, rfl⟩))
    go_ret2
    exact ⟨rfl, HB1.out⟩
  cases hc : clB (k, a, b)
  · rw [hg] at HG HA
    rw [hc] at HC HA
    have HA2 : Hid (dfA t p (k, a, b) n = false) := Lib.hid (by rw [HA.out]; rfl)
    have HX2 : Hid (dfX t p (k, a, b) n = false) := Lib.hid (by rw [HX.out, HA2.out]; rfl)
    rw [HA2.out, HX2.out]
    clear hg hc
    go_enter Try.func25, Try.ntmps25
    go_wp2_with (first
      | (go_at_call 54; refine (HG.out _).mono ?_; rintro e w1 ⟨rfl, hb1⟩; have HB1 := Lib.hid (HB.out.trans (hb1.mono HB.out.size)); obtain ⟨⟨⟨p0, p1⟩, p2⟩, q0, q1, q2⟩ := HK.out _ hb1; have HK1 := Lib.hid (fun w2 (hb2 : Below w1.heap.size w1 w2) => HK.out _ (hb1.trans (hb2.mono hb1.size))); clear hb1)
      | (go_at_call 17; refine (HC.out _).mono ?_; rintro e w2 ⟨rfl, hb2⟩; have HB2 := Lib.hid (HB1.out.trans (hb2.mono HB1.out.size)); clear p0 p1 p2 q0 q1 q2; obtain ⟨⟨⟨p0, p1⟩, p2⟩, q0, q1, q2⟩ := HK1.out _ hb2; clear hb2)
      | (go_at_call 60; refine (HH.out _).mono ?_; rintro e w3 ⟨rfl, rfl⟩))
    go_ret2
    exact ⟨rfl, HB2.out⟩
  cases hh : inB n 1 60
  · rw [hg] at HG HA
    rw [hc] at HC HA
    rw [hh] at HH HA
    have HA2 : Hid (dfA t p (k, a, b) n = false) := Lib.hid (by rw [HA.out]; rfl)
    have HX2 : Hid (dfX t p (k, a, b) n = false) := Lib.hid (by rw [HX.out, HA2.out]; rfl)
    rw [HA2.out, HX2.out]
    clear hg hc hh
    go_enter Try.func25, Try.ntmps25
    go_wp2_with (first
      | (go_at_call 54; refine (HG.out _).mono ?_; rintro e w1 ⟨rfl, hb1⟩; have HB1 := Lib.hid (HB.out.trans (hb1.mono HB.out.size)); obtain ⟨⟨⟨p0, p1⟩, p2⟩, q0, q1, q2⟩ := HK.out _ hb1; have HK1 := Lib.hid (fun w2 (hb2 : Below w1.heap.size w1 w2) => HK.out _ (hb1.trans (hb2.mono hb1.size))); clear hb1)
      | (go_at_call 17; refine (HC.out _).mono ?_; rintro e w2 ⟨rfl, hb2⟩; have HB2 := Lib.hid (HB1.out.trans (hb2.mono HB1.out.size)); clear p0 p1 p2 q0 q1 q2; obtain ⟨⟨⟨p0, p1⟩, p2⟩, q0, q1, q2⟩ := HK1.out _ hb2; clear hb2)
      | (go_at_call 60; refine (HH.out _).mono ?_; rintro e w3 ⟨rfl, rfl⟩))
    go_ret2
    exact ⟨rfl, HB2.out⟩
  have hn := inB_hid hh
  have HFB := Lib.hid (fun W => isFitBy_any t p k a b n W (by omega) hc)
  rw [hg] at HG HA
  rw [hc] at HC HA
  rw [hh] at HH HA
  have HA2 : Hid (dfA t p (k, a, b) n = true) := Lib.hid (by rw [HA.out]; rfl)
  have HX2 : Hid (dfX t p (k, a, b) n = fitP t p (k, a, b) n) := Lib.hid (by rw [HX.out, HA2.out]; rfl)
  rw [HA2.out, HX2.out]
  generalize fitP t p (k, a, b) n = r at HFB ⊢
  clear hg hc hh hn
  go_enter Try.func25, Try.ntmps25
  go_wp2_with (first
      | (go_at_call 54; refine (HG.out _).mono ?_; rintro e w1 ⟨rfl, hb1⟩; have HB1 := Lib.hid (HB.out.trans (hb1.mono HB.out.size)); obtain ⟨⟨⟨p0, p1⟩, p2⟩, q0, q1, q2⟩ := HK.out _ hb1; have HK1 := Lib.hid (fun w2 (hb2 : Below w1.heap.size w1 w2) => HK.out _ (hb1.trans (hb2.mono hb1.size))); clear hb1)
      | (go_at_call 17; refine (HC.out _).mono ?_; rintro e w2 ⟨rfl, hb2⟩; have HB2 := Lib.hid (HB1.out.trans (hb2.mono HB1.out.size)); clear p0 p1 p2 q0 q1 q2; obtain ⟨⟨⟨p0, p1⟩, p2⟩, q0, q1, q2⟩ := HK1.out _ hb2; clear hb2)
      | (go_at_call 60; refine (HH.out _).mono ?_; rintro e w3 ⟨rfl, rfl⟩))
  refine (HFB.out _).mono ?_
  rintro e w4 ⟨rfl, hb4⟩
  have HB4 := Lib.hid (HB2.out.trans (hb4.mono HB2.out.size))
  clear hb4
  go_wp2_with fail
  go_ret2
  exact ⟨rfl, HB4.out⟩

set_option maxHeartbeats 2000000 in
theorem sDoesFit (t p k a b n : Int) (w : World) :
    Calls Try.prog 23 #[.agg #[.int .i64 t, .int .i64 p], .agg #[.int .i64 k, .int .i64 a, .int .i64 b], .int .i64 n] w fun e w' => e = .returned (.tuple #[.bool (dfX t p (k, a, b) n), .bool (dfA t p (k, a, b) n)]) ∧ Below w.heap.size w w' := by
  have HB := Lib.hid ((below_new w (.cells #[.int .i64 t, .int .i64 p] 35)).trans ((below_new (w.alloc (.cells #[.int .i64 t, .int .i64 p] 35)) (.cells #[.int .i64 k, .int .i64 a, .int .i64 b] 25)).mono (by simp)))
  have HK := Lib.hid (fun w1 (hb : Below ((w.alloc (.cells #[.int .i64 t, .int .i64 p] 35)).alloc (.cells #[.int .i64 k, .int .i64 a, .int .i64 b] 25)).heap.size ((w.alloc (.cells #[.int .i64 t, .int .i64 p] 35)).alloc (.cells #[.int .i64 k, .int .i64 a, .int .i64 b] 25)) w1) => And.intro (((Bm.new w t p 35).keep (below_new _ (.cells #[.int .i64 k, .int .i64 a, .int .i64 b] 25))).keep hb) (show PtCell w1 (w.heap.size + 1) 0 (k, a, b) from PtCell.of ⟨by go_simp, by go_simp, by go_simp⟩ (hb.block _ (by simp))))
  have HG := Lib.hid (fun W => mpGood_any t p W)
  have HC := Lib.hid (fun W => pzClue_any k a b W)
  have HH := Lib.hid (fun W => pzHidden_any n W)
  have HA : Hid (dfA t p (k, a, b) n = (goodB t p && clB (k, a, b) && inB n 1 60)) := Lib.hid rfl
  have HX : Hid (dfX t p (k, a, b) n = (dfA t p (k, a, b) n && fitP t p (k, a, b) n)) := Lib.hid rfl
  cases hg : goodB t p
  · rw [hg] at HG HA
    have HA2 : Hid (dfA t p (k, a, b) n = false) := Lib.hid (by rw [HA.out]; rfl)
    have HX2 : Hid (dfX t p (k, a, b) n = false) := Lib.hid (by rw [HX.out, HA2.out]; rfl)
    rw [HA2.out, HX2.out]
    clear hg
    go_enter Try.func23, Try.ntmps23
    go_wp2_with (first
      | (go_at_call 57; refine (HG.out _).mono ?_; rintro e w1 ⟨rfl, hb1⟩; have HB1 := Lib.hid (HB.out.trans (hb1.mono HB.out.size)); obtain ⟨⟨⟨p0, p1⟩, p2⟩, q0, q1, q2⟩ := HK.out _ hb1; have HK1 := Lib.hid (fun w2 (hb2 : Below w1.heap.size w1 w2) => HK.out _ (hb1.trans (hb2.mono hb1.size))); clear hb1)
      | (go_at_call 49; refine (HC.out _).mono ?_; rintro e w2 ⟨rfl, hb2⟩; have HB2 := Lib.hid (HB1.out.trans (hb2.mono HB1.out.size)); clear p0 p1 p2 q0 q1 q2; obtain ⟨⟨⟨p0, p1⟩, p2⟩, q0, q1, q2⟩ := HK1.out _ hb2; clear hb2)
      | (go_at_call 58; refine (HH.out _).mono ?_; rintro e w3 ⟨rfl, rfl⟩))
    go_ret2
    exact ⟨rfl, HB1.out⟩
  cases hc : clB (k, a, b)
  · rw [hg] at HG HA
    rw [hc] at HC HA
    have HA2 : Hid (dfA t p (k, a, b) n = false) := Lib.hid (by rw [HA.out]; rfl)
    have HX2 : Hid (dfX t p (k, a, b) n = false) := Lib.hid (by rw [HX.out, HA2.out]; rfl)
    rw [HA2.out, HX2.out]
    clear hg hc
    go_enter Try.func23, Try.ntmps23
    go_wp2_with (first
      | (go_at_call 57; refine (HG.out _).mono ?_; rintro e w1 ⟨rfl, hb1⟩; have HB1 := Lib.hid (HB.out.trans (hb1.mono HB.out.size)); obtain ⟨⟨⟨p0, p1⟩, p2⟩, q0, q1, q2⟩ := HK.out _ hb1; have HK1 := Lib.hid (fun w2 (hb2 : Below w1.heap.size w1 w2) => HK.out _ (hb1.trans (hb2.mono hb1.size))); clear hb1)
      | (go_at_call 49; refine (HC.out _).mono ?_; rintro e w2 ⟨rfl, hb2⟩; have HB2 := Lib.hid (HB1.out.trans (hb2.mono HB1.out.size)); clear p0 p1 p2 q0 q1 q2; obtain ⟨⟨⟨p0, p1⟩, p2⟩, q0, q1, q2⟩ := HK1.out _ hb2; clear hb2)
      | (go_at_call 58; refine (HH.out _).mono ?_; rintro e w3 ⟨rfl, rfl⟩))
    go_ret2
    exact ⟨rfl, HB2.out⟩
  cases hh : inB n 1 60
  · rw [hg] at HG HA
    rw [hc] at HC HA
    rw [hh] at HH HA
    have HA2 : Hid (dfA t p (k, a, b) n = false) := Lib.hid (by rw [HA.out]; rfl)
    have HX2 : Hid (dfX t p (k, a, b) n = false) := Lib.hid (by rw [HX.out, HA2.out]; rfl)
    rw [HA2.out, HX2.out]
    clear hg hc hh
    go_enter Try.func23, Try.ntmps23
    go_wp2_with (first
      | (go_at_call 57; refine (HG.out _).mono ?_; rintro e w1 ⟨rfl, hb1⟩; have HB1 := Lib.hid (HB.out.trans (hb1.mono HB.out.size)); obtain ⟨⟨⟨p0, p1⟩, p2⟩, q0, q1, q2⟩ := HK.out _ hb1; have HK1 := Lib.hid (fun w2 (hb2 : Below w1.heap.size w1 w2) => HK.out _ (hb1.trans (hb2.mono hb1.size))); clear hb1)
      | (go_at_call 49; refine (HC.out _).mono ?_; rintro e w2 ⟨rfl, hb2⟩; have HB2 := Lib.hid (HB1.out.trans (hb2.mono HB1.out.size)); clear p0 p1 p2 q0 q1 q2; obtain ⟨⟨⟨p0, p1⟩, p2⟩, q0, q1, q2⟩ := HK1.out _ hb2; clear hb2)
      | (go_at_call 58; refine (HH.out _).mono ?_; rintro e w3 ⟨rfl, rfl⟩))
    go_ret2
    exact ⟨rfl, HB2.out⟩
  have hn := inB_hid hh
  have HFB := Lib.hid (fun W => pzFits_any t p k a b n W hg (by omega) (by omega) hc)
  rw [hg] at HG HA
  rw [hc] at HC HA
  rw [hh] at HH HA
  have HA2 : Hid (dfA t p (k, a, b) n = true) := Lib.hid (by rw [HA.out]; rfl)
  have HX2 : Hid (dfX t p (k, a, b) n = fitP t p (k, a, b) n) := Lib.hid (by rw [HX.out, HA2.out]; rfl)
  rw [HA2.out, HX2.out]
  generalize fitP t p (k, a, b) n = r at HFB ⊢
  clear hg hc hh hn
  go_enter Try.func23, Try.ntmps23
  go_wp2_with (first
      | (go_at_call 57; refine (HG.out _).mono ?_; rintro e w1 ⟨rfl, hb1⟩; have HB1 := Lib.hid (HB.out.trans (hb1.mono HB.out.size)); obtain ⟨⟨⟨p0, p1⟩, p2⟩, q0, q1, q2⟩ := HK.out _ hb1; have HK1 := Lib.hid (fun w2 (hb2 : Below w1.heap.size w1 w2) => HK.out _ (hb1.trans (hb2.mono hb1.size))); clear hb1)
      | (go_at_call 49; refine (HC.out _).mono ?_; rintro e w2 ⟨rfl, hb2⟩; have HB2 := Lib.hid (HB1.out.trans (hb2.mono HB1.out.size)); clear p0 p1 p2 q0 q1 q2; obtain ⟨⟨⟨p0, p1⟩, p2⟩, q0, q1, q2⟩ := HK1.out _ hb2; clear hb2)
      | (go_at_call 58; refine (HH.out _).mono ?_; rintro e w3 ⟨rfl, rfl⟩))
  refine (HFB.out _).mono ?_
  rintro e w4 ⟨rfl, hb4⟩
  have HB4 := Lib.hid (HB2.out.trans (hb4.mono HB2.out.size))
  clear hb4
  go_wp2_with fail
  go_ret2
  exact ⟨rfl, HB4.out⟩
end Go.Proofs.Ytheailbbnmblnaa
