/-
  'FallingWords' of the model.
-/
import Derived.Test.YtencblbkbalmcaaDoorFallI
import Derived.Test.YtencblbkbalmcaaDoorOddsC
namespace Go.Proofs.YtencblbkbalmcaaDoor
open Go.RowKit
set_option linter.unusedVariables false

theorem wby_size (l : List UInt8) : (wby l).size = l.length := by show l.toArray.size = _; simp
theorem wby_list (l : List UInt8) : (wby l).data.toList = l := rfl
theorem fw_succ (f : Nat → Bool) (L n : Nat) : fwL L (pats f (n + 1)) = fwL L (pats f n) ++ (if f (pop n) = true then [wby (patP n L L)] else []) := by
  unfold fwL
  rw [pats_succ, List.map_append]
  split <;> simp

set_option maxRecDepth 100000 in
set_option maxHeartbeats 8000000 in
theorem sFalling_yes (t p : Int) (L : Nat) (w : World) (hg : goodB t p = true) (hL : L ≤ 8) :
    Calls Tryd.prog 14 #[.agg #[.int .i64 t, .int .i64 p], .int .i64 (L : Int)] w (RetStrs (fwL L (pats (fls t L) (2 ^ L))) true w) := by
  have HM := Lib.hid (fun w => mpGood_any t p w)
  have HI := Lib.hid (fun w => l1In_any (L : Int) 0 8 w)
  rw [hg] at HM
  rw [show inB (L : Int) 0 8 = true by simp [inB]; omega] at HI
  have HG := Lib.hid hg
  have hL1 : (L : Int) ≤ 8 := by omega
  obtain ⟨pw1, pw0⟩ := pow2_le (k := L) (by omega)
  have hNN : ((2 : Int) ^ L) = ((2 ^ L : Nat) : Int) := by simp
  obtain ⟨N, hN⟩ : ∃ N : Nat, N = 2 ^ L := ⟨_, rfl⟩
  have hN256 : N ≤ 256 := by
    have : 2 ^ L ≤ 2 ^ 8 := Nat.pow_le_pow_right (by decide) hL
    omega
  rw [← hN] at hNN ⊢
  have hNi : (N : Int) ≤ 256 := by omega
  have HNN := Lib.hid hNN
  have HND := Lib.hid hN
  obtain ⟨i0, hi, hi0, hi1, hi2⟩ := info_parts infoS
  clear hg hN
  go_enter Tryd.func14, Tryd.ntmps14
  go_wp2_with fail
  refine (HM.out _).mono ?_
  rintro e w1 ⟨rfl, hb1⟩
  obtain ⟨c0, c1, hz, hb⟩ := map_block hb1
  clear hb1
  go_wp2_with (go_at_call 43; refine (HI.out _).mono ?_; rintro e w' ⟨rfl, rfl⟩)
  go_loopw [6, 7] (fun v x wr => ∃ j : Nat, j ≤ N ∧ x = .int .i64 j ∧ wr.ownsRow (w.heap.size + 1) 9 1 v (fwL L (pats (fls t L) j)).length ((fwL L (pats (fls t L) j)).map Value.string) ∧ wr.cell? ⟨w.heap.size, 0, none⟩ = some (.int .i64 t) ∧ wr.cell? ⟨w.heap.size, 1, none⟩ = some (.int .i64 p) ∧ w.heap.size < wr.heap.size ∧ Below w.heap.size w wr) (fun _ x _ => N - (intOf x).toNat)
  case atStart => exact ⟨0, by omega, rfl, World.ownsRow_nil _ _ _ _, c0, c1, hz, hb⟩
  case round =>
    clear c0 c1 hz hb
    obtain ⟨j, hj, rfl, hown, c0, c1, hz, hbr⟩ := hrel
    have HO := Lib.hid hown
    have HBR := Lib.hid hbr
    have hlen : (fwL L (pats (fls t L) j)).length ≤ 256 := by rw [fwL_length]; have := pats_len_le (fls t L) j; omega
    clear hown hbr
    by_cases hlt : j < N
    · have hjN : (j : Int) < (N : Int) := by omega
      have hjd : decide (j < N) = true := by simpa using hlt
      have hji : (j : Int) ≤ 256 := by omega
      have HSC := Lib.hid (fw_succ (fls t L) L j)
      have HJ2 : Hid (j < 2 ^ L) := Lib.hid (by rw [← HND.out]; exact hlt)
      generalize fwL L (pats (fls t L) j) = l at HO HSC hlen ⊢
      obtain ⟨wo, rfl⟩ : ∃ wo : World, wo = wr := ⟨_, rfl⟩
      go_wp2_with fail
      go_loopw [8, 9] (fun o x wr => wr = wo ∧ ∃ m r : Nat, m + r = L ∧ x = .int .i64 ((r : Int) - 1) ∧ o = .string (wby (patP j L m))) (fun _ x _ => (intOf x + 1).toNat)
      case atStart => exact ⟨rfl, 0, L, by omega, rfl, rfl⟩
      case round =>
        obtain ⟨rfl, m, r, hmr, rfl, rfl⟩ := hrel
        cases r with
        | zero =>
          have e1 : ((0 : Nat) : Int) - 1 = -1 := by omega
          rw [e1]
          obtain rfl : m = L := by omega
          have hpj : pop j ≤ 15 := pop_le (L := 15) (by omega) (by omega)
          have hcnt : cnt (wby (patP j m m)).data.toList = pop j := by rw [wby_list]; exact count_pop (by omega) HJ2.out
          have HC := Lib.hid (fun w => woOdds_any (wby (patP j m m)) w (by rw [wby_size, patP_length]; omega) (by rw [wby_list]; exact patP_signs _ _ _))
          rw [hcnt] at HC
          have HF := Lib.hid (fun w => woFalls_big t p (pop j) m w HG.out (by omega) (by omega))
          have hfl : fls t m (pop j) = fl t (pop j) m := rfl
          rw [← hfl] at HF
          generalize fls t m (pop j) = f at HF HSC
          generalize pop j = c at HC HF
          generalize wby (patP j m m) = s at HC HSC ⊢
          clear hcnt hfl hpj hmr e1
          go_wp2_with fail
          cases f
          case false =>
            have HSC2 := Lib.hid (show _ = l by simpa using HSC.out)
            go_region_with (first
              | (go_at_call 44; refine (HC.out _).mono ?_; rintro e w2 ⟨rfl, hb2⟩; have d0 := kept_cell hb2 (by first | exact hz | simpa using hz) c0; have d1 := kept_cell hb2 (by first | exact hz | simpa using hz) c1)
              | (go_at_call 39; refine (HF.out _).mono ?_; rintro e w3 ⟨rfl, hb3⟩))
            all_goals
              have h2 : Below wr.heap.size wr w2 := by first | exact hb2 | exact ((Below.refl _ wr).drew).trans (hb2.mono (by simp))
              have hbx := h2.trans (hb3.mono h2.size)
              have HBX := Lib.hid hbx
              have HO3 := Lib.hid (ownsRow_kept HO.out hbx)
              have f0 := kept_cell hbx hz c0
              have f1 := kept_cell hbx hz c1
              have hz3 := Nat.lt_of_lt_of_le hz hbx.size
              clear hb2 hb3 h2 hbx d0 d1 c0 c1
              go_wp2_with fail
              exact ⟨⟨j + 1, hlt, by go_num, by rw [HSC2.out]; exact HO3.out, f0, f1, hz3, HBR.out.trans (HBX.out.mono (Nat.le_of_lt hz))⟩, by simp [intOf]; omega⟩
          case true =>
            have HSC2 := Lib.hid (show _ = l ++ [s] by simpa using HSC.out)
            have hj3 : l.length + 1 ≤ maxLen := by unfold maxLen; omega
            go_region_with (first
              | (go_at_call 44; refine (HC.out _).mono ?_; rintro e w2 ⟨rfl, hb2⟩; have d0 := kept_cell hb2 (by first | exact hz | simpa using hz) c0; have d1 := kept_cell hb2 (by first | exact hz | simpa using hz) c1)
              | (go_at_call 39; refine (HF.out _).mono ?_; rintro e w3 ⟨rfl, hb3⟩))
            all_goals
              have h2 : Below wr.heap.size wr w2 := by first | exact hb2 | exact ((Below.refl _ wr).drew).trans (hb2.mono (by simp))
              have hbx := h2.trans (hb3.mono h2.size)
              have HBX := Lib.hid hbx
              have HO3 := Lib.hid (ownsRow_kept HO.out hbx)
              have f0 := kept_cell hbx hz c0
              have f1 := kept_cell hbx hz c1
              have hz3 := Nat.lt_of_lt_of_le hz hbx.size
              clear hb2 hb3 h2 hbx d0 d1 c0 c1
              go_wp2_with (at_builtin; refine wpList_append_own _ rfl _ _ 29 rfl (w.heap.size + 1) 9 i0 (.string ⟨#[]⟩) 1 16 Tryd.underlying29 hi hi0 hi1 hi2 rfl (by decide) _ _ _ rfl (HO3.out.alloc _) ⟨w3.heap.size, 0, none⟩ 1 1 [.string s] rfl rfl ?_ ?_ ?_ ?_ ?_ ?_; rotate_right; intro v' w4 hown4 hgrow _)
              · have hbg : Below (w.heap.size + 1) w3 w4 := ((Below.refl (w.heap.size + 1) w3).alloc (by omega) _).grown hgrow (by simp; omega) (fun k e => (HO3.out.lt k e).1)
                refine ⟨⟨j + 1, hlt, by go_num, ?_, (hbg.cell (p := ⟨w.heap.size, 0, none⟩) (Nat.lt_succ_self _)).trans f0, (hbg.cell (p := ⟨w.heap.size, 1, none⟩) (Nat.lt_succ_self _)).trans f1, Nat.lt_of_lt_of_le hz3 hbg.size, (HBR.out.trans (HBX.out.mono (Nat.le_of_lt hz))).trans (hbg.mono (by omega))⟩, by simp [intOf]; omega⟩
                rw [HSC2.out, List.map_append, List.length_append]
                exact hown4
              · exact fun j u hu => new_cell _ _ _ hu
              · simp [Value.oneCell']
              · exact hj3
              · omega
              · simp; omega
        | succ n =>
          have e1 : ((n + 1 : Nat) : Int) - 1 = (n : Int) := by omega
          rw [e1]
          have hn8 : (n : Int) ≤ 8 := by omega
          have HPS := Lib.hid (patP_succ j L m)
          have hpn : L - 1 - m = n := by omega
          rw [hpn, shr_cast] at HPS
          have hpl := patP_length j L m
          generalize patP j L m = q at HPS hpl ⊢
          have hadd := fun w b => wby_add w q b (by omega)
          have ht : (((j : Int) / 2 ^ n).tmod 2 == 0) = !oddB ((j : Int) / 2 ^ n) := even_tmod _
          cases ho : oddB ((j : Int) / 2 ^ n)
          all_goals
            rw [ho] at ht
            first | rw [par_even ho] at HPS | rw [par_odd ho] at HPS
            clear ho hpl hpn e1
            go_wp2_with fail
            exact ⟨⟨by trivial, m + 1, n, by omega, rfl, by rw [HPS.out]⟩, by simp [intOf]; try omega⟩
    · obtain rfl : j = N := by omega
      have hjd : decide (j < j) = false := by simp
      clear c0 c1
      go_wp2_with fail
      go_ret2
      refine retS_some ?_ rfl HBR.out
      exact ownsRow_base HO.out (by omega)
end Go.Proofs.YtencblbkbalmcaaDoor
