/-
  THE ITERATOR OF AN OTHER MAP, BY 'previous': it gives 0, 1, 2, .. and the number behind so many of them, till 400, or till what is no number.
-/
import Derived.Test.YtbhmplccjaijjaaCapO
import Derived.Test.YtbhmplccjaijjaaPrO
namespace Go.Proofs.Ytbhmplccjaijjaa
open Go.RowKit Go.Shelf
attribute [local go_sem] Oper.semAt_some
set_option linter.unusedVariables false

set_option maxRecDepth 100000 in
set_option maxHeartbeats 4000000 in
theorem iter_prev (bo bn bs N0 : Nat) (ps : List Pt) (a : Option Addr) (c : Nat) (n : Int) (hl : ps.length ≤ 1048576) (h1 : oneB ps = true) :
    SeqN 9 Try.prog 92 #[.pointer (some ⟨bo, 0, none⟩), .pointer (some ⟨bn, 0, none⟩), .pointer (some ⟨bs, 0, none⟩)] (CapO bo bn bs N0 ps a c n 76) (seqO ps (prv ps) n) := by
  intro l J Jx W hcap hY hJ0
  have HCAP0 := Lib.hid hcap
  have HIO := Lib.hid (fun W hm => isOther_any ps (.agg #[.slice a ps.length c]) W hl hm)
  have hst : ∀ v W, numB v = true → omB ps = true → OthIn W (.agg #[.slice a ps.length c]) ps → Calls Try.prog 76 #[.agg #[.slice a ps.length c], .int .i64 v] W fun e w' => e = .returned (.int .i64 ((prv ps) v)) ∧ Below W.heap.size W w' := fun v W hn hg hm => previous_any ps v _ W hg h1 hn hm
  have HST := Lib.hid hst
  clear hst hl
  obtain ⟨c0, c1, c2, lo, ln, ls, hrow, hN0⟩ := hcap
  obtain ⟨F, hF⟩ : ∃ F : Int → Int, (prv ps) = F := ⟨_, rfl⟩
  rw [hF] at hY HST ⊢
  clear hF hrow
  refine callsIn_of_wp Try.func92 rfl trivial ?_ rfl
  simp only [Try.ntmps92, List.size_toArray, List.length_cons, List.length_nil, Nat.reduceAdd, Nat.reduceSub, Array.replicate_succ, Array.replicate_zero, List.push_toArray, List.append_toArray, List.nil_append, List.cons_append]
  by_cases hg : omB ps = true
  · gi_wp2_with fail
    refine ⟨trivial, ?_⟩
    have HI0 := Lib.hid (HIO.out W HCAP0.out.isIn)
    rw [hg] at HI0
    refine (callsIn_wide.2 HI0.out).mono ?_
    rintro e w1 ⟨rfl, hb⟩
    have HCAP1 := Lib.hid (HCAP0.out.keep hb)
    have HBEL := Lib.hid hb
    have q2 := HCAP1.out.2.1
    clear hb c0 c1 c2 HI0 HIO HCAP0
    gi_wp2_with fail
    gi_region
    obtain ⟨K, hK⟩ : ∃ K, K = cntF F 401 n := ⟨_, rfl⟩
    have HK := Lib.hid hK; clear hK
    clear q2
    gi_wp2_with fail
    gi_loopw [5, 6] (fun i x wr => ∃ (k : Nat) (W0 : World), i = .int .i64 k ∧ x = .int .i64 (itr F k n) ∧ k ≤ K ∧ J (upto F n k) W0 ∧ Below W0.heap.size W0 wr ∧ CapO bo bn bs N0 ps a c n 76 wr) (fun i _ _ => 402 - (RowKit.intOf i).toNat)
    case atStart =>
      exact ⟨0, W, rfl, rfl, Nat.zero_le _, hJ0, by first | exact HBEL.out.drew | exact HBEL.out, by first | exact HCAP1.out.keep ((Below.refl _ _).drew) | exact HCAP1.out⟩
    case round =>
      clear HCAP1 HBEL
      obtain ⟨k, W0, rfl, rfl, hk, hJ, hbel, hcap⟩ := hrel
      obtain ⟨v, hv⟩ : ∃ v, v = itr F k n := ⟨_, rfl⟩
      rw [← hv]
      by_cases hlt : k < K
      · have hl := hlt
        rw [HK.out, lt_cnt] at hl
        have hk1 : k ≤ 400 := by omega
        have hn : numB v = true := by rw [hv]; exact allB_at (Nat.lt_succ_self k) hl.2
        have hpre : upto F n k ++ [((k : Int), v)] <+: seqO ps F n := by
          rw [hv, ← upto_succ, seqO, if_pos hg, ← HK.out]; exact upto_prefix _ _ (by omega)
        obtain ⟨fn, tmps, assign, body, hy, hR⟩ := hY (upto F n k) ((k : Int), v) W0 wr hJ hbel hpre hcap
        dsimp only at hy
        have HV := Lib.hid hv; clear hv hl
        clear hJ hJ0 hY
        have HNN := Lib.hid (fun w => isNumber_any v w)
        rw [hn] at HNN
        gi_wp2_with (refine ⟨trivial, ?_⟩; gi_at_call 68; refine (callsIn_wide.2 (HNN.out _)).mono ?_; rintro e w' ⟨rfl, rfl⟩)
        refine hR.mono ?_
        rintro e W' (⟨rfl, hJ', hsz', hcap'⟩ | ⟨rfl, hJx'⟩)
        · have HC2 := Lib.hid hcap'
          have HS2 := Lib.hid (HST.out v W' hn hg hcap'.isIn)
          obtain ⟨d0, d1, d2, m0, m1, m2, _, m3⟩ := hcap'
          have HJ := Lib.hid hJ'
          clear hJ' hR hy hpre hbel hcap
          gi_wp2_with fail
          refine ⟨trivial, ?_⟩
          refine (callsIn_wide.2 HS2.out).mono ?_
          rintro e w2 ⟨rfl, hb3⟩
          have HB3 := Lib.hid hb3
          clear hb3 d0 d1 d2
          gi_wp2_with fail
          refine ⟨⟨k + 1, W', by go_num, by rw [itr_succ, ← HV.out], hlt, ?_, HB3.out, HC2.out.keep HB3.out⟩, by simp [RowKit.intOf]; omega⟩
          rw [upto_succ, ← HV.out]; exact HJ.out
        · gi_wp2_with fail
          refine bodyPost_ret (results_none rfl _ _ _) rfl ?_
          exact ⟨⟨_, rfl⟩, W', Below.refl _ _, .inr ⟨_, hpre, hJx'⟩⟩
      · obtain rfl : k = K := by omega
        have hfin : J (seqO ps F n) W0 := by rw [seqO, if_pos hg, ← HK.out]; exact hJ
        have hno : ¬ (k < 401 ∧ allB F n (k + 1) = true) := by rw [← lt_cnt, ← HK.out]; omega
        have hall : allB F n k = true := by
          cases k with
          | zero => rfl
          | succ j =>
            have : j < cntF F 401 n := by rw [← HK.out]; omega
            exact ((lt_cnt _ _ _ _).1 this).2
        have hend : 400 < k ∨ (k ≤ 400 ∧ numB v = false) := by
          by_cases h1 : 400 < k
          · exact .inl h1
          · refine .inr ⟨by omega, ?_⟩
            rw [allB_succ, hall, Bool.true_and, ← hv] at hno
            simpa using fun h => hno ⟨by omega, h⟩
        have HF := Lib.hid hfin
        clear hno hall hfin hv hJ hJ0 hY HK hcap
        rcases hend with hend | ⟨hk1, hend⟩
        · have hd : decide ((k : Int) ≤ 400) = false := by simp; omega
          have hd2 : ¬ ((k : Int) ≤ 400) := by omega
          gi_wp2_with fail
          try (refine ⟨trivial, ?_⟩; gi_wp2_with fail)
          go_end0
          exact ⟨⟨_, rfl⟩, W0, hbel, .inl HF.out⟩
        · have HNN := Lib.hid (fun w => isNumber_any v w)
          rw [hend] at HNN
          gi_wp2_with (refine ⟨trivial, ?_⟩; gi_at_call 68; refine (callsIn_wide.2 (HNN.out _)).mono ?_; rintro e w' ⟨rfl, rfl⟩)
          go_end0
          exact ⟨⟨_, rfl⟩, W0, hbel, .inl HF.out⟩
  · have hg' : omB ps = false := by simpa using hg
    have hfin : J (seqO ps F n) W := by rw [seqO, if_neg hg]; exact hJ0
    have HI0 := Lib.hid (HIO.out W HCAP0.out.isIn)
    rw [hg'] at HI0
    clear hY
    gi_wp2_with fail
    refine ⟨trivial, ?_⟩
    refine (callsIn_wide.2 HI0.out).mono ?_
    rintro e w1 ⟨rfl, hb⟩
    gi_wp2_with fail
    refine bodyPost_ret (results_none rfl _ _ _) rfl ?_
    exact ⟨⟨_, rfl⟩, W, hb, .inl hfin⟩
end Go.Proofs.Ytbhmplccjaijjaa
