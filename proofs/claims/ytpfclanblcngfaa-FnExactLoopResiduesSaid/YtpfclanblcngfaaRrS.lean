/-
  'rsReached' of the model.
-/
import Derived.Test.YtpfclanblcngfaaRrM
import Derived.Test.YtpfclanblcngfaaSortT
import Derived.Maps.AppendAt
namespace Go.Proofs.Ytpfclanblcngfaa
open Go.RowKit
set_option linter.unusedVariables false

theorem put_list (ts : List Value) (ds : List Deferred) (d : Nat) (v : Value) : Act.put { tmps := ts.toArray, defers := ds } (some d) v = { tmps := (ts.set d v).toArray, defers := ds } := by simp [Act.put]

set_option maxRecDepth 100000 in
set_option maxHeartbeats 4000000 in
theorem rsReached_any (t p : Int) (K : Nat) (v : Value) (fr : List Int) (w : World) (hg : goodB t p = true) (hm1 : 1 ≤ K) (hm2 : K ≤ 60) (hfr : ∀ x ∈ fr, 0 ≤ x ∧ x < (K : Int)) (hnd : fr.Nodup) (hv : PartV w v fr) :
    Calls Try.prog 27 #[.agg #[.int .i64 t, .int .i64 p], .int .i64 (K : Int), v] w fun e w' => ∃ v', e = .returned v' ∧ IntsAt w' w.heap.size v' (rcL t p K fr) ∧ Below w.heap.size w w' := by
  obtain ⟨g, off, cap, rfl, hgl, hc1, hc2, hpart⟩ := hv
  have HNX := Lib.hid (fun (x : Int) (h0 : 0 ≤ x) (h1 : x < (K : Int)) w => rsNext_any t p K x w hg (by omega) (by omega) h0 h1)
  have hfl : fr.length ≤ K := nodup_len hnd hfr
  have HST := Lib.hid (RrAt.start (t := t) (p := p) (M := K) hnd)
  have HFR := Lib.hid hfr
  have HP : Hid (PartAt (w.alloc (.cells #[.int .i64 t, .int .i64 p] 27)) g off fr) := Lib.hid (hpart.kept hgl ((Below.refl _ w).alloc (Nat.le_refl _) _))
  have HOW := Lib.hid (l1Own_any g off cap fr _ (by omega) HP.out (by simp; omega))
  obtain ⟨j0, hj, hj0, hj1, hj2⟩ := info_parts info3
  clear hg hnd hfr hpart
  go_enter Try.func27, Try.ntmps27
  go_wp2_with fail
  refine HOW.out.mono ?_
  rintro e w1 ⟨v, rfl, hrow, hb1⟩
  obtain ⟨c0, c1, hz, hb⟩ := map_block hb1
  have HB1 := Lib.hid hb
  have HR1 : Hid (IntsAt w1 (w.heap.size + 1) v fr) := Lib.hid (by simpa using hrow)
  clear hb1 hb hrow HOW HP
  go_wp2_with fail
  go_loopw [7, 8] (fun v x wr => ∃ k out, RrAt t p K fr out k ∧ x = .int .i64 (k : Int) ∧ IntsAt wr (w.heap.size + 1) v out ∧ wr.cell? ⟨w.heap.size, 0, none⟩ = some (.int .i64 t) ∧ wr.cell? ⟨w.heap.size, 1, none⟩ = some (.int .i64 p) ∧ w.heap.size < wr.heap.size ∧ Below w.heap.size w wr) (fun _ x _ => K + 1 - (RowKit.intOf x).toNat)
  case atStart => exact ⟨0, fr, HST.out, rfl, HR1.out, c0, c1, hz, HB1.out⟩
  case round =>
    clear HR1 HB1 HST c0 c1 hz hgl hc1 hc2
    obtain ⟨k, out, hat, rfl, hrow, c0, c1, hz, hb⟩ := hrel
    have HO := Lib.hid hrow
    have HB := Lib.hid hb
    have HAT := Lib.hid hat
    have hlen := hat.len (by omega) HFR.out
    have hkl := hat.le
    clear hb
    by_cases hlt : k < out.length
    · obtain ⟨g, cap, rfl, hg1, hg2, hg3, hg4, hr⟩ := ints_row hrow (by omega)
      have q := (hr k hlt).1
      obtain ⟨x0, x1⟩ := hat.range (by omega) HFR.out _ (mem_of_at hlt rfl)
      have HNXT := Lib.hid (hat.step hlt)
      have HNJ := Lib.hid (HNX.out _ x0 x1)
      have HRG : Hid (∀ y ∈ nbL t p K (out.getD k 0), 0 ≤ y ∧ y < (K : Int)) := Lib.hid (fun y hy => by rcases mem_nbL.1 hy with rfl | rfl <;> exact nb_range (by omega))
      obtain ⟨hl1, hl2⟩ := nbL_len t p K (out.getD k 0)
      obtain ⟨ys, hys⟩ : ∃ ys, nbL t p K (out.getD k 0) = ys := ⟨_, rfl⟩
      rw [hys] at HNXT HNJ HRG hl1 hl2
      obtain ⟨x, hx⟩ : ∃ x, out.getD k 0 = x := ⟨_, rfl⟩
      rw [hx] at q x0 x1 HNJ
      have hlt2 : (k : Int) < (out.length : Int) := by omega
      obtain ⟨L, hL⟩ : ∃ L, out.length = L := ⟨_, rfl⟩
      rw [hL] at hlen hkl hlt hlt2 hg3 HO ⊢
      have HLO := Lib.hid hL
      clear hat hrow hr hys hx hL
      go_wp2_with fail
      go_region_with (go_at_call 21; refine (HNJ.out _).mono ?_; rintro e w2 ⟨v2, rfl, hv, hb2⟩; obtain ⟨g2, cap2, rfl, hh1, hh2, hh3, hh4, hr⟩ := ints_row hv.isAt (by omega))
      all_goals
        have hb3 : Below wr.heap.size wr w2 := by
          first
            | exact hb2
            | exact (Below.refl _ wr).drew.trans (hb2.mono (by simp))
        have hh5 : wr.heap.size ≤ g2 := by simpa using hh1
        have d0 := kept_cell hb3 hz c0
        have d1 := kept_cell hb3 hz c1
        have HB2 := Lib.hid (HB.out.trans (hb3.mono (Nat.le_of_lt hz)))
        have HO2 := Lib.hid (ownsRow_kept HO.out hb3)
        have hz2 := Nat.lt_of_lt_of_le hz hb3.size
        have HR2 := Lib.hid hr
        clear hb2 hb3 hr hv c0 c1 hh1
      all_goals
        go_wp2_with fail
        change Code.wp _ _ _ (Act.put _ (some 26) _) _
        simp only [put_list, List.set_cons_succ, List.set_cons_zero]
        have hne0 : (Value.slice (some ⟨g, 0, none⟩) L cap).ownBlock ≠ some g2 := by simp [Value.ownBlock]; omega
        have HO3 : Hid (IntsAt w2 (w.heap.size + 1) (.slice (some ⟨g, 0, none⟩) L cap) (addU out (ys.take 0))) := Lib.hid (by rw [List.take_zero]; exact HO2.out)
        have HUT := Lib.hid (fun m (h : m < ys.length) => addU_take (a := out) h)
        have HLEN : Hid (∀ m, (addU out (ys.take m)).Nodup ∧ (∀ x ∈ addU out (ys.take m), 0 ≤ x ∧ x < (K : Int)) ∧ addU out (ys.take m) ≠ []) := Lib.hid (fun m => ⟨addU_nodup HAT.out.nd, fun x hx => by
          rcases mem_addU.1 hx with h | h
          · exact HAT.out.range (by omega) HFR.out x h
          · exact HRG.out x (List.mem_of_mem_take h), fun e => by
          obtain ⟨s, hs⟩ := addU_pre (ys.take m) out
          rw [e] at hs
          have := congrArg List.length hs
          rw [List.length_append, HLO.out] at this
          simp at this
          omega⟩)
        obtain ⟨N, hN⟩ : ∃ N, ys.length = N := ⟨_, rfl⟩
        have HN := Lib.hid hN
        rw [hN] at hl1 hl2 hh3 HUT ⊢
        clear hN HO2 HO
        go_loopw [7, 27] (fun v x wq => ∃ m : Nat, m ≤ N ∧ x = .int .i64 (m : Int) ∧ IntsAt wq (w.heap.size + 1) v (addU out (ys.take m)) ∧ v.ownBlock ≠ some g2 ∧ IntRow wq g2 ys ∧ g2 < wq.heap.size ∧ wq.cell? ⟨w.heap.size, 0, none⟩ = some (.int .i64 t) ∧ wq.cell? ⟨w.heap.size, 1, none⟩ = some (.int .i64 p) ∧ w.heap.size < wq.heap.size ∧ Below w.heap.size w wq) (fun _ x _ => N - (RowKit.intOf x).toNat)
        case atStart => exact ⟨0, Nat.zero_le _, rfl, HO3.out, hne0, HR2.out, hh2, d0, d1, hz2, HB2.out⟩
        case round =>
          clear HO3 hne0 HR2 d0 d1 hz2 HB2 hh2 hz HB
          obtain ⟨m, hm, rfl, hrow, hne, hr, hg2, c0, c1, hz, hb⟩ := hrel
          have HO := Lib.hid hrow
          have HB := Lib.hid hb
          have HRW := Lib.hid hr
          have HNE := Lib.hid hne
          by_cases hlm : m < N
          · have hlm2 : (m : Int) < (N : Int) := by omega
            have hmy : m < ys.length := by rw [HN.out]; exact hlm
            have q := (hr m hmy).1
            have HU1 := Lib.hid (HUT.out m hlm)
            obtain ⟨hnd, hrg, hnn⟩ := HLEN.out m
            have hal := nodup_len hnd hrg
            have HHAS := Lib.hid (fun y => l1Has_up y (.inr ⟨hnn, hrow⟩) (by omega))
            obtain ⟨a, ha⟩ : ∃ a, addU out (ys.take m) = a := ⟨_, rfl⟩
            obtain ⟨y, hy⟩ : ∃ y, ys.getD m 0 = y := ⟨_, rfl⟩
            rw [hy] at q HU1
            rw [ha] at HO HHAS HU1 hal
            have HHY := Lib.hid (HHAS.out y)
            clear hrow hb hr hne hy ha hnd hrg hnn HHAS
            by_cases hin : y ∈ a
            · have HA1 := Lib.hid (add1_yes hin)
              rw [decide_eq_true hin] at HHY
              clear hin
              go_wp2_with (go_at_call 35; refine HHY.out.mono ?_; rintro e w' ⟨rfl, rfl⟩)
              exact ⟨⟨m + 1, hlm, by go_num, by rw [HU1.out, HA1.out]; exact HO.out, HNE.out, HRW.out, hg2, c0, c1, hz, HB.out⟩, by simp [RowKit.intOf]; omega⟩
            · have HA1 := Lib.hid (add1_no hin)
              rw [decide_eq_false hin] at HHY
              have hj2' : a.length + 1 ≤ maxLen := by unfold maxLen; omega
              clear hin
              go_wp2_with (first
                | (go_at_call 35; refine HHY.out.mono ?_; rintro e w' ⟨rfl, rfl⟩)
                | (at_builtin; refine wpList_append_own_at _ rfl _ _ 24 rfl (w.heap.size + 1) 3 j0 (.int .i64 0) 1 8 Try.underlying24 hj hj0 hj1 hj2 rfl (by decide) _ _ _ rfl (HO.out.alloc _) ⟨wr.heap.size, 0, none⟩ 1 1 [.int .i64 y] rfl rfl ?_ ?_ ?_ ?_ ?_ ?_; rotate_right; intro v' w5 hown5 hgrow5 _ hat5))
              · have hbg : Below (w.heap.size + 1) wr w5 := ((Below.refl (w.heap.size + 1) wr).alloc hz _).grown hgrow5 (by simp; omega) (fun k e => (HO.out.lt k e).1)
                have hot : w5.heap[g2]? = wr.heap[g2]? := (hgrow5.block g2 (by simp; omega) (fun e => HNE.out e.symm)).trans (((Below.refl wr.heap.size wr).alloc (Nat.le_refl _) _).block g2 hg2)
                refine ⟨⟨m + 1, hlm, by go_num, ?_, ?_, fun i hi => ⟨(World.cell?_of_block (a := ⟨g2, i, none⟩) hot).trans (HRW.out i hi).1, (World.frozen?_of_block (a := ⟨g2, i, none⟩) hot).trans (HRW.out i hi).2⟩, Nat.lt_of_lt_of_le hg2 (Nat.le_trans (by simp) hgrow5.size), (hbg.cell (p := ⟨w.heap.size, 0, none⟩) (Nat.lt_succ_self _)).trans c0, (hbg.cell (p := ⟨w.heap.size, 1, none⟩) (Nat.lt_succ_self _)).trans c1, Nat.lt_of_lt_of_le hz hbg.size, HB.out.trans (hbg.mono (Nat.le_succ _))⟩, by simp [RowKit.intOf]; omega⟩
                · unfold IntsAt
                  rw [HU1.out, HA1.out, List.map_append, List.length_append]
                  exact hown5
                · rcases hat5 with h | h
                  · rw [h]; exact HNE.out
                  · rw [h]; simp; omega
              · exact fun j u hu => new_cell _ _ _ hu
              · simp [Value.oneCell']
              · exact hj2'
              · omega
              · simp; omega
          · have HM : Hid (m = N) := Lib.hid (by omega)
            have hlm2 : ¬ ((m : Int) < (N : Int)) := by omega
            clear hlm hm hrow hb hr hne
            go_wp2_with fail
            have h := HO.out
            rw [HM.out, ← HN.out, List.take_length] at h
            exact ⟨⟨k + 1, _, HNXT.out, by go_num, h, c0, c1, hz, HB.out⟩, by simp [RowKit.intOf]; omega⟩
    · have HK : Hid (k = out.length) := Lib.hid (by omega)
      have hlt2 : ¬ ((k : Int) < (out.length : Int)) := by omega
      have HSO := Lib.hid (trSorted_any hrow (by omega))
      have HFI : Hid (srtI out = rcL t p K fr) := Lib.hid (RrAt.fin (by have := HAT.out; rw [HK.out] at this; exact this) (by omega) HFR.out)
      obtain ⟨a, cp, rfl⟩ := hrow.form
      clear hat hrow hlt c0 c1
      go_wp2_with fail
      refine HSO.out.mono ?_
      rintro e w2 ⟨v', rfl, hv, hb2⟩
      have HV := Lib.hid hv
      have HB2 := Lib.hid (HB.out.trans (hb2.mono HB.out.size))
      clear hv hb2
      go_wp2_with fail
      go_ret
      refine ⟨_, rfl, ?_, HB2.out⟩
      rw [← HFI.out]
      exact ownsRow_base HV.out HB.out.size
end Go.Proofs.Ytpfclanblcngfaa
