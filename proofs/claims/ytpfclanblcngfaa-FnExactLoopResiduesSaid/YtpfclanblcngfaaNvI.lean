/-
  'ResiduesNever' of the program.
-/
import Derived.Test.YtpfclanblcngfaaNvM
import Derived.Test.YtpfclanblcngfaaSetW
namespace Go.Proofs.Ytpfclanblcngfaa
open Go.RowKit Go.Maps
set_option linter.unusedVariables false

theorem touch00 {A B : World} {n : Nat} (h : Touch 0 0 A B) (hn : n ≤ A.heap.size) : Below n A B := ⟨h.os, h.tape, h.output, h.size, fun k hk => h.block k (by omega) (.inr (Nat.zero_le _))⟩
/-- Block b is a map whose keys are xs, put in at most N times. -/
def SetTo (w : World) (b N : Nat) (xs : List Int) : Prop := ∃ (n : Nat) (D : DataW Unit), w.ownsMap Try.prog 3 (plainElem (H := Unit) Try.prog 4) b n D ∧ n ≤ N ∧ (∀ x : Int, has D (.int .i64 x) = true ↔ x ∈ xs) ∧ AllTrue D
theorem SetTo.isIn {w : World} {b N : Nat} {xs : List Int} (h : SetTo w b N xs) (hN : N ≤ 100000) : SetIn w b xs := by
  obtain ⟨n, D, h1, h2, h3, h4⟩ := h
  exact ⟨n, D, h1, Nat.le_trans h2 hN, h3, h4⟩
theorem SetTo.under {w w' : World} {M b N : Nat} {xs : List Int} (h : SetTo w b N xs) (hb : Below M w w') (h1 : b < M) : SetTo w' b N xs := by
  obtain ⟨n, D, h2, h3, h4, h5⟩ := h
  exact ⟨n, D, ownsMap_under h2 hb h1, h3, h4, h5⟩
theorem small_wf {x : Int} (h0 : 0 ≤ x) (h1 : x ≤ 120) : (Lit.int .i64 x).wf = true := numB_wf (num_small h0 h1)
theorem never1 (x : Int) (B b : Nat) (S : List Int) (W : World) (hx : (Lit.int .i64 x).wf = true) (hB : W.cell? ⟨B, 0, none⟩ = some (.map (some b))) (hs : SetIn W b S) :
    Calls Try.prog 34 #[.int .i64 x, .pointer (some ⟨B, 0, none⟩)] W fun e W' => e = .returned (.bool (decide (x ∉ S))) ∧ W = W' := by
  have hl := hs.look hx
  have HD : Hid (decide (x ∉ S) = !decide (x ∈ S)) := Lib.hid (by simp)
  generalize decide (x ∉ S) = d at HD ⊢
  generalize decide (x ∈ S) = c at hl HD
  clear hs hx
  go_enter Try.func34, Try.ntmps34
  go_wp2_with fail
  go_ret
  exact ⟨by rw [HD.out]; rfl, rfl⟩

set_option maxRecDepth 100000 in
set_option maxHeartbeats 4000000 in
theorem iResiduesNever (t p M : Int) (w : World) :
    Calls Try.prog 16 #[.agg #[.int .i64 t, .int .i64 p], .int .i64 M] w (RetInts (nvA t p M) (askN t p M) w) := by
  have HM := Lib.hid (fun w => isMap_any t p w)
  have HI := Lib.hid (fun w => isModulus_any M w)
  cases hg : goodB t p
  · have HA : Hid (askN t p M = false) := Lib.hid (by rw [askN, hg]; rfl)
    have HY := Lib.hid (nvA_no HA.out)
    rw [hg] at HM
    clear hg
    go_enter Try.func16, Try.ntmps16
    go_wp2_with fail
    refine (HM.out _).mono ?_
    rintro e w1 ⟨rfl, hb1⟩
    obtain ⟨c0, c1, hz, hb⟩ := map_block hb1
    clear hb1
    go_wp2_with fail
    go_ret2
    exact retI_none HY.out HA.out hb
  · rw [hg] at HM
    cases hm : inB M 1 60
    · have HA : Hid (askN t p M = false) := Lib.hid (by rw [askN, hm]; simp)
      have HY := Lib.hid (nvA_no HA.out)
      rw [hm] at HI
      clear hg hm
      go_enter Try.func16, Try.ntmps16
      go_wp2_with fail
      refine (HM.out _).mono ?_
      rintro e w1 ⟨rfl, hb1⟩
      obtain ⟨c0, c1, hz, hb⟩ := map_block hb1
      clear hb1
      go_wp2_with (go_at_call 31; refine (HI.out _).mono ?_; rintro e w' ⟨rfl, rfl⟩)
      go_ret2
      exact retI_none HY.out HA.out hb
    · have HA : Hid (askN t p M = true) := Lib.hid (by rw [askN, hg, hm]; rfl)
      obtain ⟨hm1, hm2⟩ : 1 ≤ M ∧ M ≤ 60 := by simpa [inB] using hm
      rw [hm] at HI
      obtain ⟨K, rfl⟩ : ∃ K : Nat, M = (K : Int) := ⟨M.toNat, by omega⟩
      have HY : Hid (nvA t p K = nvL t p K) := Lib.hid (nvA_yes HA.out)
      have HNX := Lib.hid (fun (j : Nat) (h : j < K) w => residuesBehind_any t p K (j : Int) w hg hm1 hm2 (by omega) (by omega))
      have HRG := Lib.hid (fun (j : Nat) (i : Int) => nb_range (t := t) (p := p) (M := K) (r := (j : Int)) (i := i) (by omega))
      have HSU := Lib.hid (hitL_succ t p K)
      have HB0 : Hid (hitL t p K 0 = []) := Lib.hid rfl
      have HU := Lib.hid (fun w => countUp_any 0 K ((K : Int) - 1) w (by omega) (by omega) (by omega) (by omega))
      have hmm := @run_makeMap Try.prog
      clear hg hm
      go_enter Try.func16, Try.ntmps16
      go_wp2_with fail
      refine (HM.out _).mono ?_
      rintro e w1 ⟨rfl, hb1⟩
      obtain ⟨c0, c1, hz, hb⟩ := map_block hb1
      have HB1 := Lib.hid hb
      clear hb1 hb
      go_wp2_with (go_at_call 31; refine (HI.out _).mono ?_; rintro e w' ⟨rfl, rfl⟩)
      have hw0 : SetTo ((w1.alloc (Obj.map #[] 0)).alloc (Obj.cells #[Value.map (some w1.heap.size)] 48)) w1.heap.size (2 * 0) (hitL t p K 0) := ⟨0, _, (World.ownsMap_made (H := Unit) w1 Try.prog 3 (plainElem (H := Unit) Try.prog 4)).alloc _, by omega, fun x => by rw [HB0.out]; simp [has_eq], allTrue_empty⟩
      obtain ⟨W0, hW0⟩ : ∃ W0, ((w1.alloc (Obj.map #[] 0)).alloc (Obj.cells #[Value.map (some w1.heap.size)] 48)) = W0 := ⟨_, rfl⟩
      have hbx : W0.cell? ⟨w1.heap.size + 1, 0, none⟩ = some (.map (some w1.heap.size)) := by
        rw [← hW0]
        have := new_cell (w1.alloc (Obj.map #[] 0)) (.map (some w1.heap.size)) 48 (j := 0) (u := .map (some w1.heap.size)) rfl
        simp at this; exact this
      have hb0 : Below w1.heap.size w1 W0 := by rw [← hW0]; exact ((Below.refl _ w1).alloc (Nat.le_refl _) _).alloc (by simp) _
      have hs0 : w1.heap.size + 1 < W0.heap.size := by rw [← hW0]; simp
      have d0 := kept_cell hb0 hz c0
      have d1 := kept_cell hb0 hz c1
      have HB2 := Lib.hid (HB1.out.trans (hb0.mono HB1.out.size))
      rw [hW0] at hw0 ⊢
      have HS0 := Lib.hid hw0
      have hK : K ≤ 60 := by omega
      clear c0 c1 hb0 hW0 hw0
      go_loopw [20] (fun x wr => ∃ j : Nat, j ≤ K ∧ x = .int .i64 (j : Int) ∧ SetTo wr w1.heap.size (2 * j) (hitL t p K j) ∧ wr.cell? ⟨w1.heap.size + 1, 0, none⟩ = some (.map (some w1.heap.size)) ∧ wr.cell? ⟨w.heap.size, 0, none⟩ = some (.int .i64 t) ∧ wr.cell? ⟨w.heap.size, 1, none⟩ = some (.int .i64 p) ∧ w1.heap.size + 1 < wr.heap.size ∧ Below w.heap.size w wr) (fun x _ => K - (RowKit.intOf x).toNat)
      case atStart => exact ⟨0, Nat.zero_le _, rfl, HS0.out, hbx, d0, d1, hs0, HB2.out⟩
      case round =>
        clear HS0 HB2 d0 d1 hbx hs0
        obtain ⟨j, hj, rfl, hset, hbx, c0, c1, hs, hb⟩ := hrel
        have HS := Lib.hid hset
        have HB := Lib.hid hb
        clear hset hb
        by_cases hlt : j < K
        · have hlt2 : (j : Int) < (K : Int) := by omega
          have HNJ := Lib.hid (HNX.out j hlt)
          have HSJ := Lib.hid (HSU.out j)
          obtain ⟨S, hS⟩ : ∃ S, hitL t p K j = S := ⟨_, rfl⟩
          rw [hS] at HS HSJ
          obtain ⟨a0, h0⟩ : ∃ a, nb t p K (j : Int) 0 = a := ⟨_, rfl⟩
          obtain ⟨a1, h1⟩ : ∃ a, nb t p K (j : Int) 1 = a := ⟨_, rfl⟩
          have hr0 := HRG.out j 0
          have hr1 := HRG.out j 1
          rw [h0, h1] at HNJ HSJ
          rw [h0] at hr0
          rw [h1] at hr1
          clear hS h0 h1
          go_wp2_with fail
          refine (HNJ.out _).mono ?_
          rintro e w2 ⟨rfl, hb2⟩
          have e0 := kept_cell hb2 (by omega) c0
          have e1 := kept_cell hb2 (by omega) c1
          have ex := kept_cell hb2 (by omega) hbx
          have HS2 := Lib.hid (HS.out.under hb2 (by omega))
          have HB2 := Lib.hid (HB.out.trans (hb2.mono HB.out.size))
          have hs2 := Nat.lt_of_lt_of_le hs hb2.size
          clear hb2 c0 c1 hbx
          go_wp2_with fail
          have HIX := Lib.hid (fun m (h : m < 2) w => index_two #[.int .i64 a0, .int .i64 a1] m (if m = 0 then .int .i64 a0 else .int .i64 a1) h (by
            have : m = 0 ∨ m = 1 := by omega
            rcases this with rfl | rfl <;> rfl) w)
          have HS3 : Hid (SetTo w2 w1.heap.size (2 * j + 0) (S ++ [a0, a1].take 0)) := Lib.hid (by rw [List.take_zero, List.append_nil]; exact HS2.out)
          go_loopw [27] (fun x wq => ∃ m : Nat, m ≤ 2 ∧ x = .int .i64 (m : Int) ∧ SetTo wq w1.heap.size (2 * j + m) (S ++ [a0, a1].take m) ∧ wq.cell? ⟨w1.heap.size + 1, 0, none⟩ = some (.map (some w1.heap.size)) ∧ wq.cell? ⟨w.heap.size, 0, none⟩ = some (.int .i64 t) ∧ wq.cell? ⟨w.heap.size, 1, none⟩ = some (.int .i64 p) ∧ w1.heap.size + 1 < wq.heap.size ∧ Below w.heap.size w wq) (fun x _ => 2 - (RowKit.intOf x).toNat)
          case atStart => exact ⟨0, by omega, rfl, HS3.out, ex, e0, e1, hs2, HB2.out⟩
          case round =>
            clear HS3 HS2 HB2 e0 e1 ex hs2 HS HB
            obtain ⟨m, hm, rfl, hset, hbx, c0, c1, hs, hb⟩ := hrel
            have HS := Lib.hid hset
            have HB := Lib.hid hb
            clear hb
            by_cases hlm : m < 2
            · have hlm2 : (m : Int) < 2 := by omega
              have HIM := HIX.out m hlm
              have HTK : Hid ([a0, a1].take m ++ [if m = 0 then a0 else a1] = [a0, a1].take (m + 1)) := Lib.hid (by
                have : m = 0 ∨ m = 1 := by omega
                rcases this with rfl | rfl <;> rfl)
              have hxr : 0 ≤ (if m = 0 then a0 else a1) ∧ (if m = 0 then a0 else a1) ≤ 60 := by split <;> omega
              have hie : (if m = 0 then Value.int .i64 a0 else Value.int .i64 a1) = Value.int .i64 (if m = 0 then a0 else a1) := by split <;> rfl
              rw [hie] at HIM
              obtain ⟨x, hx⟩ : ∃ x, (if m = 0 then a0 else a1) = x := ⟨_, rfl⟩
              rw [hx] at HIM HTK hxr
              have HKEY := Lib.hid (keyOf_int_mk (P := Try.prog) Try.underlying3 (show (Lit.int .i64 x).wf = true from small_wf hxr.1 (by omega)))
              obtain ⟨n3, D3, hown3, hn3, hD3, hT3⟩ := hset
              have HO3 := Lib.hid hown3
              have HD3 := Lib.hid hD3
              have HT3 := Lib.hid hT3
              clear hown3 hD3 hT3 hie hx
              go_wp2_with (at_mapUpdate; refine wpList_mapUpdate_own _ rfl _ _ _ 48 rfl 3 4 keyedInt Try.underlying48 (plainElem (H := Unit) Try.prog 4) w1.heap.size n3 _ rfl HO3.out (by unfold maxLen; omega) _ _ _ rfl rfl HKEY.out _ [] (plainElem_bool Try.underlying4 true) ?_; intro w5 hown5 hgrow5)
              have hb5 : Below w1.heap.size wr w5 := (Below.refl w1.heap.size wr).grown hgrow5 (by omega) (fun k e => by cases e; exact Nat.le_refl _)
              have f0 := (hb5.cell (p := ⟨w.heap.size, 0, none⟩) hz).trans c0
              have f1 := (hb5.cell (p := ⟨w.heap.size, 1, none⟩) hz).trans c1
              have fx : w5.cell? ⟨w1.heap.size + 1, 0, none⟩ = some (.map (some w1.heap.size)) := (World.cell?_of_block (a := ⟨w1.heap.size + 1, 0, none⟩) (hgrow5.block (w1.heap.size + 1) hs (by simp))).trans hbx
              refine ⟨⟨m + 1, hlm, by go_num, ⟨n3 + 1, _, hown5, ?_, ?_, HT3.out.put HO3.out.isMap _⟩, fx, f0, f1, Nat.lt_of_lt_of_le hs hgrow5.size, HB.out.trans (hb5.mono HB1.out.size)⟩, by simp [RowKit.intOf]; omega⟩
              · omega
              · intro z
                rw [has_put_iff HO3.out.isMap, HD3.out z, ← HTK.out, List.mem_append, List.mem_append, List.mem_append, List.mem_singleton, or_assoc]
            · have HM2 : Hid (m = 2) := Lib.hid (by omega)
              have hlm2 : ¬ ((m : Int) < 2) := by omega
              clear hlm hm hset
              go_wp2_with fail
              have h := HS.out
              rw [HM2.out] at h
              exact ⟨⟨j + 1, hlt, by go_num, by rw [HSJ.out, Nat.mul_succ]; exact h, hbx, c0, c1, hs, HB.out⟩, by simp [RowKit.intOf]; omega⟩
        · have HJ : Hid (j = K) := Lib.hid (by omega)
          have hlt2 : ¬ ((j : Int) < (K : Int)) := by omega
          rw [HJ.out] at HS
          have hs1 : w1.heap.size < wr.heap.size := by omega
          have HSZ := Lib.hid hs
          have HBX := Lib.hid hbx
          clear hlt hj c0 c1
          go_wp2_with fail
          refine (HU.out _).mono ?_
          rintro e w2 ⟨v, rfl, hrow, hb2⟩
          have HR := Lib.hid hrow
          have HB2 := Lib.hid hb2
          have HBW := Lib.hid (HB.out.trans (hb2.mono HB.out.size))
          have HS2 := Lib.hid ((HS.out.isIn (by omega)).under hb2 hs1)
          have HX2 := Lib.hid (kept_cell hb2 hs hbx)
          clear hrow hb2
          go_wp2_with fail
          have hsz2 := HB2.out.size
          refine (sieve_any 34 #[.pointer (some ⟨w1.heap.size + 1, 0, none⟩)] (upL 0 K) (fun x => decide (x ∉ hitL t p K K)) (fun _ W => SetIn W w1.heap.size (hitL t p K K) ∧ W.cell? ⟨w1.heap.size + 1, 0, none⟩ = some (.map (some w1.heap.size))) 0 0 v w2 wr.heap.size
            (enters_of Try.func34 (by kernel_rfl) rfl) (by rw [upL_length]; omega) HR.out (Nat.zero_le _) (Nat.zero_le _) (Nat.le_refl _)
            (fun i W W' h hs' hb => ⟨h.1.under hb (by have := HSZ.out; have := HB2.out.size; omega), (hb.cell (p := ⟨w1.heap.size + 1, 0, none⟩) (by have := HSZ.out; have := HB2.out.size; dsimp only; omega)).trans h.2⟩) ⟨HS2.out, HX2.out⟩
            (fun i W hi h hs' => ?_)).mono ?_
          · rw [upL_length] at hi
            rw [upL_at _ hi]
            refine (never1 _ _ _ _ W (small_wf (by omega) (by omega)) h.2 h.1).mono ?_
            rintro e W' ⟨he, rfl⟩
            exact ⟨he, h, Touch.refl _ _ _⟩
          · rintro e w3 ⟨v3, rfl, hrow3, _, ht3⟩
            go_wp2_with fail
            go_ret2
            rw [HA.out, HY.out]
            exact ⟨_, rfl, ownsRow_base hrow3 HBW.out.size, HBW.out.trans (touch00 ht3 HBW.out.size)⟩
end Go.Proofs.Ytpfclanblcngfaa
