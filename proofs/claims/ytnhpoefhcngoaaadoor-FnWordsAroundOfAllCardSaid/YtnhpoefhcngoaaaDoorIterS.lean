/-
  THE ITERATOR OF A WALK, BY SHORT STEPS: it gives 0, 1, 2, .. and the number behind so many short steps, till 1000, or till what is no number.
-/
import Derived.Test.YtnhpoefhcngoaaaDoorIter
import Derived.Test.YtnhpoefhcngoaaaDoorLeaf2
namespace Go.Proofs.YtnhpoefhcngoaaaDoor
open Go.RowKit Go.Shelf
attribute [local go_sem] Oper.semAt_some
set_option linter.unusedVariables false

set_option maxHeartbeats 1000000 in
theorem iter_short (bw bs : Nat) (t p n : Int) :
    Seq2 9 Tryd.prog 61 #[.pointer (some ⟨bw, 0, none⟩), .pointer (some ⟨bs, 0, none⟩)] (CapOf bw bs t p n 34) (seqOf t p (sx t p) n) := by
  intro l J Jx W hcap hY hJ0
  obtain ⟨c0, c1, c2, cs, lw, ls⟩ := hcap
  refine callsIn_of_wp Tryd.func61 rfl trivial ?_ rfl
  simp only [Tryd.ntmps61, List.size_toArray, List.length_cons, List.length_nil, Nat.reduceAdd, Nat.reduceSub, Array.replicate_succ, Array.replicate_zero, List.push_toArray, List.append_toArray, List.nil_append, List.cons_append]
  by_cases hg : goodB t p = true
  · gi_wp2_with (refine ⟨trivial, ?_⟩; gi_at_call 25; refine (callsIn_wide.2 (isMap_any t p _)).mono ?_; rintro e w1 ⟨rfl, hb⟩)
    have k0 : w1.cell? ⟨bw, 0, none⟩ = some (.int .i64 t) := kept_cell hb lw c0
    have k1 : w1.cell? ⟨bw, 1, none⟩ = some (.int .i64 p) := kept_cell hb lw c1
    have k2 : w1.cell? ⟨bw, 2, none⟩ = some (.int .i64 n) := kept_cell hb lw c2
    have lw1 : bw < w1.heap.size := Nat.lt_of_lt_of_le lw hb.size
    have ne1 : bw ≠ w1.heap.size := by omega
    gi_region
    have hbx : Box (w1.alloc (.cells #[.int .i64 t, .int .i64 p, .int .i64 n] 53)).drew w1.heap.size t p n := by
      refine ⟨?_, ?_, ?_, ?_, ?_, ?_⟩ <;> go_simp
    have hcap1 : CapOf bw bs t p n 34 (w1.alloc (.cells #[.int .i64 t, .int .i64 p, .int .i64 n] 53)).drew :=
      CapOf.below ⟨c0, c1, c2, cs, lw, ls⟩ lw ls ((hb.alloc hb.size _).drew)
    have hbel : Below W.heap.size W (w1.alloc (.cells #[.int .i64 t, .int .i64 p, .int .i64 n] 53)).drew := (hb.alloc hb.size _).drew
    have hsz1 : W.heap.size ≤ w1.heap.size := hb.size
    have HBX := Lib.hid hbx; clear hbx
    have HCAP := Lib.hid hcap1; clear hcap1
    have HBEL := Lib.hid hbel; clear hbel
    obtain ⟨K, hK⟩ : ∃ K, K = cntF (sx t p) 1001 n := ⟨_, rfl⟩
    have HK := Lib.hid hK; clear hK
    clear k0 k1 k2 c0 c1 c2 cs hb ne1
    gi_wp2_with fail
    gi_loopw [4, 5] (fun i bx wr => ∃ (k b : Nat) (W0 : World), i = .int .i64 k ∧ bx = .pointer (some ⟨b, 0, none⟩) ∧ k ≤ K ∧ J (upto (sx t p) n k) W0 ∧ Below W0.heap.size W0 wr ∧ W0.heap.size ≤ b ∧ b < wr.heap.size ∧ Box wr b t p (itr (sx t p) k n) ∧ CapOf bw bs t p n 34 wr) (fun i _ _ => 1002 - (intOf i).toNat)
    case atStart =>
      exact ⟨0, w1.heap.size, W, rfl, rfl, Nat.zero_le _, hJ0, HBEL.out, hsz1, by simp, HBX.out, HCAP.out⟩
    case round =>
      obtain ⟨k, b, W0, rfl, rfl, hk, hJ, hbel, hb0, hb1, hbox, hcap⟩ := hrel
      obtain ⟨v, hv⟩ : ∃ v, v = itr (sx t p) k n := ⟨_, rfl⟩
      rw [← hv] at hbox
      obtain ⟨q0, q1, q2, z0, z1, z2⟩ := hbox
      by_cases hlt : k < K
      · have hl := hlt
        rw [HK.out, lt_cnt] at hl
        have hk1 : k ≤ 1000 := by omega
        have hn : numB v = true := by rw [hv]; exact allB_at (Nat.lt_succ_self k) hl.2
        have hpre : upto (sx t p) n k ++ [((k : Int), v)] <+: seqOf t p (sx t p) n := by
          rw [hv, ← upto_succ, seqOf, if_pos hg, ← HK.out]; exact upto_prefix _ _ (by omega)
        obtain ⟨fn, tmps, assign, body, hy, hR⟩ := hY (upto (sx t p) n k) ((k : Int), v) W0 wr b hJ hbel hb0 hb1 hpre hcap
        dsimp only at hy
        have HV := Lib.hid hv; clear hv hl
        clear hJ hJ0 hY HBX HCAP HBEL
        gi_wp2_with (refine ⟨trivial, ?_⟩; gi_at_call 62; refine (callsIn_wide.2 (isNumber_any v _)).mono ?_; rintro e w' ⟨rfl, rfl⟩)
        refine hR.mono ?_
        rintro e W' (⟨rfl, hJ', hsz', hb', hcap'⟩ | ⟨rfl, hJx'⟩)
        · obtain ⟨r0, r1, r2, y0, y1, y2⟩ := Box.same (t := t) (p := p) (v := v) ⟨q0, q1, q2, z0, z1, z2⟩ hb'
          have HCAP := Lib.hid hcap'
          obtain ⟨d0, d1, d2, ds, dw, dl⟩ := hcap'
          have hb2 : b < W'.heap.size := by omega
          have ne1 : b ≠ W'.heap.size := by omega
          have ne2 : bs ≠ W'.heap.size := by omega
          have HJ := Lib.hid hJ'
          clear hJ' q0 q1 q2 z0 z1 z2 hR hy hb' hpre hbel hcap
          gi_wp2_with fail
          refine ⟨trivial, ?_⟩
          refine (callsIn_wide.2 (shortStep_any t p v _ hg hn)).mono ?_
          rintro e w2 ⟨rfl, hb3⟩
          obtain ⟨⟨m0, m1, m2⟩, ⟨n0, n1, n2⟩, hz⟩ := one_block hb3
          have HB3 := Lib.hid hb3
          clear hb3
          gi_wp2_with fail
          have hB : Below W'.heap.size W' w2 := ((Below.refl _ _).alloc (Nat.le_refl _) _).trans (HB3.out.mono (by simp))
          have hB' := ((hB.setCell (p := ⟨W'.heap.size, 0, none⟩) (Nat.le_refl _) (.int .i64 t)).setCell (p := ⟨W'.heap.size, 1, none⟩) (Nat.le_refl _) (.int .i64 p)).setCell (p := ⟨W'.heap.size, 2, none⟩) (Nat.le_refl _) (.int .i64 (sx t p v))
          refine ⟨⟨k + 1, W'.heap.size, W', by go_num, rfl, hlt, ?_, hB', Nat.le_refl _, by simpa using hz, ?_, HCAP.out.below dw dl hB'⟩, by simp [intOf]; omega⟩
          · rw [upto_succ, ← HV.out]; exact HJ.out
          · rw [itr_succ, ← HV.out]
            refine ⟨?_, ?_, ?_, ?_, ?_, ?_⟩ <;> go_simp
        · gi_wp2_with fail
          refine bodyPost_ret (results_none rfl _ _ _) rfl ?_
          exact ⟨⟨_, rfl⟩, W', Below.refl _ _, .inr ⟨_, hpre, hJx'⟩⟩
      · obtain rfl : k = K := by omega
        have hfin : J (seqOf t p (sx t p) n) W0 := by rw [seqOf, if_pos hg, ← HK.out]; exact hJ
        have hno : ¬ (k < 1001 ∧ allB (sx t p) n (k + 1) = true) := by rw [← lt_cnt, ← HK.out]; omega
        have hall : allB (sx t p) n k = true := by
          cases k with
          | zero => rfl
          | succ j =>
            have : j < cntF (sx t p) 1001 n := by rw [← HK.out]; omega
            exact ((lt_cnt _ _ _ _).1 this).2
        have hend : 1000 < k ∨ (k ≤ 1000 ∧ numB v = false) := by
          by_cases h1 : 1000 < k
          · exact .inl h1
          · refine .inr ⟨by omega, ?_⟩
            rw [allB_succ, hall, Bool.true_and, ← hv] at hno
            simpa using fun h => hno ⟨by omega, h⟩
        have HF := Lib.hid hfin
        clear hno hall hfin hv hJ hJ0 hY HBX HCAP HBEL HK
        rcases hend with hend | ⟨hk1, hend⟩
        · have hd : decide ((k : Int) ≤ 1000) = false := by simp; omega
          gi_wp2_with fail
          refine ⟨trivial, ?_⟩
          gi_wp2_with fail
          go_end0
          exact ⟨⟨_, rfl⟩, W0, hbel, .inl HF.out⟩
        · gi_wp2_with (refine ⟨trivial, ?_⟩; gi_at_call 62; refine (callsIn_wide.2 (isNumber_any v _)).mono ?_; rintro e w' ⟨rfl, rfl⟩)
          go_end0
          exact ⟨⟨_, rfl⟩, W0, hbel, .inl HF.out⟩
  · have hg' : goodB t p = false := by simpa using hg
    have hfin : J (seqOf t p (sx t p) n) W := by rw [seqOf, if_neg hg]; exact hJ0
    clear hY
    gi_wp2_with (refine ⟨trivial, ?_⟩; gi_at_call 25; refine (callsIn_wide.2 (isMap_any t p _)).mono ?_; rintro e w1 ⟨rfl, hb⟩)
    refine bodyPost_ret (results_none rfl _ _ _) rfl ?_
    exact ⟨⟨_, rfl⟩, W, hb, .inl hfin⟩
end Go.Proofs.YtnhpoefhcngoaaaDoor
