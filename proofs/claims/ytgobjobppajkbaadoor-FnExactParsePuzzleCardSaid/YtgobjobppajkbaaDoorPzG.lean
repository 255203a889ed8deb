/-
  'pzGood', 'IsPuzzle', 'pzFits', 'pzAll' of the model.
-/
import Derived.Test.YtgobjobppajkbaaDoorPzS
import Derived.Test.YtgobjobppajkbaaDoorPzV
import Derived.Test.YtgobjobppajkbaaDoorSv
import Derived.Deep.RegionWith
namespace Go.Proofs.YtgobjobppajkbaaDoor
open Go.RowKit
set_option linter.unusedVariables false

theorem PuzIn.cl {w : World} {v : Value} {t p : Int} {ps : List Pt} (h : PuzIn w v t p ps) : ∃ a cap, v = .agg #[.int .i64 t, .int .i64 p, .slice a ps.length cap] ∧ (ps.length ≤ cap ∧ cap ≤ maxLen) ∧ ClIn w a ps := by
  obtain ⟨a, cap, rfl, h1, hx⟩ := h
  exact ⟨a, cap, rfl, h1, hx.cl (Nat.le_refl _)⟩
theorem pzB_bad {t p : Int} {ps : List Pt} (h : goodB t p = false) : pzB t p ps = false := by simp [pzB, h]
theorem pzB_long {t p : Int} {ps : List Pt} (h : 6 < ps.length) : pzB t p ps = false := by
  rw [Bool.eq_false_iff]; intro e; have := (pzB_iff.1 e).2.1; omega
theorem pzB_all {t p : Int} {ps : List Pt} (h : goodB t p = true) (hl : ¬ 6 < ps.length) : pzB t p ps = ps.all clB := by
  have : ps.length ≤ 6 := by omega
  simp [pzB, h, this]

set_option maxRecDepth 100000 in
set_option maxHeartbeats 4000000 in
theorem pzGood_any (t p : Int) (ps : List Pt) (v : Value) (w : World) (hl : ps.length ≤ 1048576) (h : PuzIn w v t p ps) :
    Calls Tryd.prog 57 #[v] w fun e w' => e = .returned (.bool (pzB t p ps)) ∧ Below w.heap.size w w' := by
  obtain ⟨a, c, rfl, _, hx⟩ := h.cl
  clear h
  have HB := Lib.hid (below_new w (.cells #[.int .i64 t, .int .i64 p, .slice a ps.length c] 55))
  have HBZ := Lib.hid (Bz.new w t p (.slice a ps.length c) 55)
  have HG := Lib.hid (fun W => mpGood_any t p W)
  obtain ⟨K, hK⟩ : ∃ K, ps.length = K := ⟨_, rfl⟩
  have HX : Hid (∀ j, j < K → ∃ b off, a = some ⟨b, off, none⟩ ∧ b < w.heap.size ∧ PtCell w b (off + j * 3) (ps.getD j pt0)) := Lib.hid (by rw [← hK]; exact hx)
  have hK2 : (K : Int) ≤ 1048576 := by omega
  cases hg : goodB t p with
  | false =>
    have HE := Lib.hid (pzB_bad (ps := ps) hg)
    rw [hg] at HG
    rw [hK] at HB HBZ ⊢
    clear hx hK HX hl hg
    go_enter Tryd.func57, Tryd.ntmps57
    go_wp2_with (go_at_call 71; refine (HG.out _).mono ?_; rintro e w1 ⟨rfl, hb1⟩; have HB1 := Lib.hid (HB.out.trans (hb1.mono HB.out.size)); clear hb1)
    go_ret
    exact ⟨ret_bool HE.out.symm, HB1.out⟩
  | true =>
    rw [hg] at HG
    by_cases hlong : 6 < ps.length
    · have HE := Lib.hid (pzB_long (t := t) (p := p) hlong)
      rw [hK] at HB HBZ hlong ⊢
      have hl6 : (6 : Int) < (K : Int) := by omega
      clear hx hK HX hl hg hlong
      go_enter Tryd.func57, Tryd.ntmps57
      go_wp2_with (go_at_call 71; refine (HG.out _).mono ?_; rintro e w1 ⟨rfl, hb1⟩; have HB1 := Lib.hid (HB.out.trans (hb1.mono HB.out.size)); obtain ⟨⟨p0, p1, p2⟩, p3⟩ := (HBZ.out.kept hb1); clear hb1)
      go_ret
      exact ⟨ret_bool HE.out.symm, HB1.out⟩
    · have HE := Lib.hid (pzB_all hg hlong)
      have HYES := Lib.hid (fun j hj => all_take_yes (f := clB) (ps := ps) (j := j) hj)
      have HNO := Lib.hid (fun j hj => all_take_no (f := clB) (ps := ps) (j := j) hj)
      have HF : Hid (ps.take K = ps) := Lib.hid (by rw [← hK]; exact List.take_length)
      rw [hK] at HB HBZ hlong HYES HNO ⊢
      have hl6 : ¬ ((6 : Int) < (K : Int)) := by omega
      have hl7 : K ≤ 6 := by omega
      clear hx hK hl hg hlong
      go_enter Tryd.func57, Tryd.ntmps57
      go_wp2_with (go_at_call 71; refine (HG.out _).mono ?_; rintro e w1 ⟨rfl, hb1⟩; have HB1 := Lib.hid (HB.out.trans (hb1.mono HB.out.size)); obtain ⟨⟨p0, p1, p2⟩, p3⟩ := (HBZ.out.kept hb1); clear hb1)
      clear p0 p1 p2 p3
      go_loopw [4, 18] (fun _ i wr => ∃ j : Nat, j ≤ K ∧ i = .int .i64 j ∧ (ps.take j).all clB = true ∧ Below w.heap.size w wr) (fun _ i _ => K - (RowKit.intOf i).toNat)
      case atStart => exact ⟨0, Nat.zero_le _, rfl, rfl, HB1.out⟩
      case round =>
        clear HB1
        obtain ⟨j, hj, rfl, hall, hbel⟩ := hrel
        have HALL := Lib.hid hall
        have HBL := Lib.hid hbel
        clear hall
        by_cases hlt : j < K
        · obtain ⟨g, off, rfl, hgs, q⟩ := HX.out j hlt
          have q2 := q.of (hbel.block g hgs)
          have HS := Lib.hid (HYES.out j hlt HALL.out)
          have HN := Lib.hid (HNO.out j hlt)
          clear q hbel
          obtain ⟨pt, hpt⟩ : ∃ pt, ps.getD j pt0 = pt := ⟨_, rfl⟩
          rw [hpt] at q2 HS HN
          obtain ⟨k, x, y⟩ := pt
          obtain ⟨k0, k1, k2⟩ := q2
          dsimp only at k0 k1 k2
          have hlt2 : (j : Int) < (K : Int) := by omega
          have HC := Lib.hid (fun w => pzClue_any k x y w)
          clear hpt
          cases hbv : clB (k, x, y) with
          | true =>
            rw [hbv] at HC HS
            clear HN hbv
            go_wp2_with fail
            refine (HC.out _).mono ?_
            rintro e w4 ⟨rfl, hb4⟩
            have HBl4 := Lib.hid (HBL.out.trans (by first | exact hb4.mono HBL.out.size | exact ((below_new wr _).trans (hb4.mono (by simp))).mono HBL.out.size))
            clear hb4
            go_wp2_with fail
            exact ⟨⟨j + 1, hlt, by go_num, HS.out (by simp), HBl4.out⟩, by simp [RowKit.intOf]; omega⟩
          | false =>
            rw [hbv] at HC HN
            clear HS hbv
            go_wp2_with fail
            refine (HC.out _).mono ?_
            rintro e w4 ⟨rfl, hb4⟩
            have HBl4 := Lib.hid (HBL.out.trans (by first | exact hb4.mono HBL.out.size | exact ((below_new wr _).trans (hb4.mono (by simp))).mono HBL.out.size))
            clear hb4
            go_wp2_with fail
            go_ret
            exact ⟨ret_bool (by rw [HE.out, HN.out trivial]), HBl4.out⟩
        · obtain rfl : j = K := by omega
          have hlt2 : ¬ ((j : Int) < (j : Int)) := by omega
          clear hbel
          go_wp2_with fail
          go_ret
          exact ⟨ret_bool (by have h := HALL.out; rw [HF.out] at h; rw [HE.out, h]), HBL.out⟩

end Go.Proofs.YtgobjobppajkbaaDoor
