/-
  'IsOther' of the program.
-/
import Derived.Test.YtgobjobppajkbaaDoorOtG
namespace Go.Proofs.YtgobjobppajkbaaDoor
open Go.RowKit
set_option linter.unusedVariables false

theorem omB_beyond {ps : List Pt} (h : allPt ps = false) : omB ps = false := by
  rw [Bool.eq_false_iff]
  intro e
  unfold allPt at h
  rw [List.all_eq_false] at h
  obtain ⟨q, hq, hn⟩ := h
  obtain ⟨r, hr, rfl⟩ := List.getElem_of_mem hq
  have := (ptOk_iff.1 (omB_at e hr)).1
  rw [List.getD_eq_getElem?_getD, List.getElem?_eq_getElem hr] at this
  exact hn this
theorem allPt_at {ps : List Pt} (h : allPt ps = true) {r : Nat} (hr : r < ps.length) : ptIn (ps.getD r pt0) = true := by
  unfold allPt at h
  rw [List.all_eq_true] at h
  rw [List.getD_eq_getElem?_getD, List.getElem?_eq_getElem hr]
  exact h _ (List.getElem_mem hr)

set_option maxRecDepth 100000 in
set_option maxHeartbeats 4000000 in
theorem isOther_any (ps : List Pt) (v : Value) (w : World) (hl : ps.length ≤ 1048576) (h : OthIn w v ps) :
    Calls Tryd.prog 90 #[v] w fun e w' => e = .returned (.bool (omB ps)) ∧ Below w.heap.size w w' := by
  obtain ⟨u, rfl, hp⟩ := h
  have HCB := Lib.hid (fun W (hb : Below w.heap.size w W) => containsBeyond_any ps u W hl (hp.kept hb))
  obtain ⟨a, c, rfl, hx⟩ := hp.rd
  clear hp
  have HB := Lib.hid (fun X => (Below.refl w.heap.size w).alloc (Nat.le_refl _) X)
  obtain ⟨K, hK⟩ : ∃ K, ps.length = K := ⟨_, rfl⟩
  have HX := Lib.hid hx
  have hK2 : (K : Int) ≤ 1048576 := by omega
  by_cases hb : 1 ≤ K ∧ K ≤ 8
  case neg =>
    have HE : Hid (omB ps = false) := Lib.hid (omB_len_no (by rw [hK]; simp [inB]; omega))
    rw [hK] at HCB ⊢
    clear hx HX hl HCB
    by_cases h1 : (K : Int) < 1
    · go_enter Tryd.func90, Tryd.ntmps90
      go_wp2_with fail
      go_ret
      exact ⟨ret_bool HE.out.symm, HB.out _⟩
    · have h2 : (8 : Int) < (K : Int) := by omega
      clear hb hK
      go_enter Tryd.func90, Tryd.ntmps90
      go_wp2_with fail
      go_ret
      exact ⟨ret_bool HE.out.symm, HB.out _⟩
  case pos =>
    obtain ⟨hK1, hK3⟩ := hb
    have h1 : ¬ ((K : Int) < 1) := by omega
    have h2 : ¬ ((8 : Int) < (K : Int)) := by omega
    cases hall : allPt ps with
    | false =>
      have HE := Lib.hid (omB_beyond hall)
      rw [hall] at HCB
      rw [hK] at HCB ⊢
      clear hx HX hl hall hK
      go_enter Tryd.func90, Tryd.ntmps90
      go_wp2_with fail
      refine (HCB.out _ (HB.out _)).mono ?_
      rintro e w1 ⟨rfl, hb1⟩
      have HB1 := Lib.hid ((HB.out _).trans (hb1.mono (HB.out _).size))
      clear hb1
      go_wp2_with fail
      go_ret
      exact ⟨ret_bool HE.out.symm, HB1.out⟩
    | true =>
      have HIN := Lib.hid (fun r (hr : r < ps.length) => allPt_at hall hr)
      have HE : Hid (omB ps = okTo ps ps.length ps.length) := Lib.hid (omB_okTo (by rw [hK]; simp [inB]; omega))
      rw [hall] at HCB
      rw [hK] at HCB HE HIN HX ⊢
      have HYES := Lib.hid (fun j => okTo_yes (ps := ps) (m := K) (j := j))
      have HNO := Lib.hid (fun j => okTo_no (ps := ps) (m := K) (j := j) (K := K))
      clear hx hl hall hK
      go_enter Tryd.func90, Tryd.ntmps90
      go_wp2_with fail
      refine (HCB.out _ (HB.out _)).mono ?_
      rintro e w1 ⟨rfl, hb1⟩
      have hbo1 : Bo w1 w.heap.size (.slice a K c) := (Bo.new w (.slice a K c) 42).kept hb1
      have HB1 := Lib.hid ((HB.out (.cells #[.slice a K c] 42)).trans (hb1.mono (HB.out _).size))
      have q1 := hbo1.1
      have H0 := Lib.hid hbo1
      clear hb1 hbo1
      go_wp2_with fail
      go_loopw [4, 5, 23] (fun _ _ i wr => ∃ j : Nat, j ≤ K ∧ i = .int .i64 j ∧ okTo ps K j = true ∧ Bo wr w.heap.size (.slice a K c) ∧ Below w.heap.size w wr) (fun _ _ i _ => K - (RowKit.intOf i).toNat)
      case atStart => exact ⟨0, Nat.zero_le _, rfl, rfl, H0.out, HB1.out⟩
      case round =>
        clear H0 HB1 q1
        obtain ⟨j, hj, rfl, hall, hbo, hbel⟩ := hrel
        have HALL := Lib.hid hall
        have HBL := Lib.hid hbel
        have HBO := Lib.hid hbo
        clear hall
        by_cases hlt : j < K
        · obtain ⟨g, rfl, hg, q⟩ := HX.out j hlt
          have q2 := q.of (hbel.block g hg)
          have HS := Lib.hid (HYES.out j)
          have HN := Lib.hid (HNO.out j hlt)
          have HI := Lib.hid (HIN.out j hlt)
          clear q hbel
          obtain ⟨pt, hpt⟩ : ∃ pt, ps.getD j pt0 = pt := ⟨_, rfl⟩
          rw [hpt] at q2 HS HN HI
          obtain ⟨t, p, o⟩ := pt
          obtain ⟨k0, k1, k2⟩ := q2
          dsimp only at k0 k1 k2
          have hlt2 : (j : Int) < (K : Int) := by omega
          have HP := Lib.hid (ptOk_two (q := (t, p, o)) (r := (j : Int)) (m := (K : Int)) HI.out)
          have HC1 := Lib.hid (fun w => isWholeFor_any t p o j w HI.out (by omega) (by omega))
          have HC2 := Lib.hid (fun w => isWholeFor_any t p o (j + K) w HI.out (by omega) (by omega))
          have hbb := hbo.1
          have hbs := hbo.2
          have hne : ¬ (w.heap.size = wr.heap.size) := by omega
          have hne2 : ¬ (wr.heap.size = w.heap.size) := by omega
          have HW := Lib.hid (HBO.out.grow (.cells #[.int .i64 t, .int .i64 p, .int .i64 o] 118))
          have HBW := Lib.hid (HBL.out.alloc HBL.out.size (.cells #[.int .i64 t, .int .i64 p, .int .i64 o] 118))
          obtain ⟨b1, hb1⟩ : ∃ b, decide ((t * (j : Int) + p) % o = 0) = b := ⟨_, rfl⟩
          obtain ⟨b2, hb2⟩ : ∃ b, decide ((t * ((j : Int) + (K : Int)) + p) % o = 0) = b := ⟨_, rfl⟩
          dsimp only at HP
          rw [hb1] at HC1 HP
          rw [hb2] at HC2 HP
          clear hpt hbo hb1 hb2 HI HIN HX HYES HNO
          cases b1 with
          | false =>
            clear HS HC2
            go_wp2_with fail
            refine (HC1.out _).mono ?_
            rintro e w4 ⟨rfl, hb4⟩
            have HBl4 := Lib.hid (HBW.out.trans (hb4.mono HBW.out.size))
            clear hb4
            go_wp2_with fail
            go_ret
            exact ⟨ret_bool (by rw [HE.out, HN.out (by rw [HP.out]; rfl)]), HBl4.out⟩
          | true =>
            have hbxx : Bo (wr.alloc (.cells #[.int .i64 t, .int .i64 p, .int .i64 o] 118)) w.heap.size (.slice (some ⟨g, 0, none⟩) K c) := HW.out
            go_wp2_with fail
            refine (HC1.out _).mono ?_
            rintro e w4 ⟨rfl, hb4⟩
            obtain ⟨⟨m0, m1, m2⟩, _, mz⟩ := one_block hb4
            have HBl4 := Lib.hid (HBW.out.trans (hb4.mono HBW.out.size))
            have HBo4 := Lib.hid (HW.out.kept hb4)
            have hsz4 := HBW.out.size
            clear hb4 hbxx
            cases b2 with
            | false =>
              clear HS
              go_wp2_with fail
              refine (HC2.out _).mono ?_
              rintro e w5 ⟨rfl, hb5⟩
              have HBl5 := Lib.hid (HBl4.out.trans (hb5.mono HBl4.out.size))
              clear hb5
              go_wp2_with fail
              go_ret
              exact ⟨ret_bool (by rw [HE.out, HN.out (by rw [HP.out]; rfl)]), HBl5.out⟩
            | true =>
              clear HN
              go_wp2_with fail
              refine (HC2.out _).mono ?_
              rintro e w5 ⟨rfl, hb5⟩
              have HBl5 := Lib.hid (HBl4.out.trans (hb5.mono HBl4.out.size))
              have HBo5 := Lib.hid (HBo4.out.kept hb5)
              clear hb5
              go_wp2_with fail
              exact ⟨⟨j + 1, hlt, by go_num, HS.out HALL.out (by rw [HP.out]; rfl), HBo5.out, HBl5.out⟩, by simp [RowKit.intOf]; omega⟩
        · obtain rfl : j = K := by omega
          have hlt2 : ¬ ((j : Int) < (j : Int)) := by omega
          clear hbo hbel
          go_wp2_with fail
          go_ret
          exact ⟨ret_bool (by rw [HE.out, HALL.out]), HBL.out⟩
end Go.Proofs.YtgobjobppajkbaaDoor
