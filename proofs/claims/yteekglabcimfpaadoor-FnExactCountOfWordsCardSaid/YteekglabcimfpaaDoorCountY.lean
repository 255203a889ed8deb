/-
  'CountOfWords' of the model, where it counts.
-/
import Derived.Test.YteekglabcimfpaaDoorCountS
namespace Go.Proofs.YteekglabcimfpaaDoor
open Go.RowKit
set_option linter.unusedVariables false

theorem wtx_wby (t p : Int) (L : Nat) (n : Int) : wby (wrd t p n L) = wtx t p L n := rfl
theorem addBy_in {β : Type} {r : β → β → Bool} {acc : List β} {x : β} (h : (acc.any fun y => r y x) = true) : addBy r acc x = acc := if_pos h
theorem addBy_new {β : Type} {r : β → β → Bool} {acc : List β} {x : β} (h : (acc.any fun y => r y x) = false) : addBy r acc x = acc ++ [x] := if_neg (by simp [h])
theorem word_there {t p : Int} {L : Nat} {xs : List Int} {k : Nat} (hk : k < xs.length) (h : ((wlist t p L xs k).any fun y => sEq y (wtx t p L (xs.getD k 0))) = true) : wlist t p L xs (k + 1) = wlist t p L xs k := by
  exact (wlist_succ t p L xs k hk).trans (addBy_in h)
theorem word_new {t p : Int} {L : Nat} {xs : List Int} {k : Nat} (hk : k < xs.length) (h : ((wlist t p L xs k).any fun y => sEq y (wtx t p L (xs.getD k 0))) = false) : wlist t p L xs (k + 1) = wlist t p L xs k ++ [wtx t p L (xs.getD k 0)] := by
  exact (wlist_succ t p L xs k hk).trans (addBy_new h)

set_option maxRecDepth 100000 in
set_option maxHeartbeats 8000000 in
theorem sCount_yes (t p : Int) (xs : List Int) (L : Nat) (v : Value) (w : World) (h : IntsIn w v xs) (hyes : askC t p xs L = true) :
    Calls Tryd.prog 24 #[.agg #[.int .i64 t, .int .i64 p], v, .int .i64 (L : Int)] w fun e w' => e = .returned (.tuple #[.int .i64 (((wlist t p L xs xs.length).length : Nat) : Int), .bool true]) ∧ Below w.heap.size w w' := by
  have hq := hyes
  simp only [askC, Bool.and_eq_true, decide_eq_true_eq] at hq
  obtain ⟨hg, hl, ha, hk⟩ := hq
  have hL : L ≤ 15 := by simp [inB] at hk; omega
  have HM := Lib.hid (fun w => mpGood_any t p w)
  have HL := Lib.hid (fun w => woLength_any (L : Int) w)
  have HA := Lib.hid (fun w v (h : IntsIn w v xs) => l1All_any xs (-1000000000000) 1000000000000 v w (by omega) h)
  rw [hg] at HM
  rw [hk] at HL
  have HALL : Hid (∀ j, j < xs.length → -1000000000000 ≤ xs.getD j 0 ∧ xs.getD j 0 ≤ 1000000000000) := Lib.hid (by
    intro j hj
    have := List.all_eq_true.1 ha (xs.getD j 0) (by simp [List.getD, hj])
    simpa [inB] using this)
  rw [ha] at HA
  have HG := Lib.hid hg
  have HX := Lib.hid h
  have HTH := Lib.hid (fun k hk h => word_there (t := t) (p := p) (L := L) (xs := xs) (k := k) hk h)
  have HNW := Lib.hid (fun k hk h => word_new (t := t) (p := p) (L := L) (xs := xs) (k := k) hk h)
  have HLE := Lib.hid (fun k => wlist_len t p L xs k)
  have HW0 := Lib.hid (wlist_zero t p L xs)
  obtain ⟨a, cap, rfl, hz0⟩ := h
  clear hz0
  obtain ⟨K, hK⟩ : ∃ K, K = xs.length := ⟨_, rfl⟩
  have HK := Lib.hid hK
  rw [← hK] at hl HALL HTH HNW ⊢
  have hk1 : ¬ (100 < (K : Int)) := by omega
  have hk2 : (K : Int) ≤ 100 := by omega
  have hL1 : (L : Int) ≤ 15 := by omega
  rw [← hK] at HX
  obtain ⟨i0, hi, hi0, hi1, hi2⟩ := info_parts infoStr
  clear hg ha hk hyes hK
  go_enter Tryd.func24, Tryd.ntmps24
  go_wp2_with fail
  refine (HM.out _).mono ?_
  rintro e w1 ⟨rfl, hb1⟩
  obtain ⟨c0, c1, hz, hb⟩ := map_block hb1
  clear hb1
  have HX1 : Hid (IntsIn w1 (.slice a K cap) xs) := Lib.hid (HX.out.kept hb)
  go_wp2_with (first | (go_at_call 40; refine (HA.out _ _ HX1.out).mono ?_; rintro e w' ⟨rfl, rfl⟩) | (go_at_call 41; refine (HL.out _).mono ?_; rintro e w' ⟨rfl, rfl⟩))
  go_loopw [8, 32] (fun y x wr => ∃ j : Nat, j ≤ K ∧ x = .int .i64 j ∧ wr.ownsRow (w.heap.size + 1) 9 1 y (wlist t p L xs j).length ((wlist t p L xs j).map Value.string) ∧ wr.cell? ⟨w.heap.size, 0, none⟩ = some (.int .i64 t) ∧ wr.cell? ⟨w.heap.size, 1, none⟩ = some (.int .i64 p) ∧ w.heap.size < wr.heap.size ∧ Below w.heap.size w wr) (fun _ x _ => K - (intOf x).toNat)
  case atStart => exact ⟨0, by omega, rfl, by rw [HW0.out]; exact World.ownsRow_nil _ _ _ _, c0, c1, hz, hb⟩
  case round =>
    clear c0 c1 hz hb
    obtain ⟨j, hj, rfl, hown, c0, c1, hz, hbr⟩ := hrel
    have HO := Lib.hid hown
    have HBR := Lib.hid hbr
    have HSI := Lib.hid ((StrsAt.of_row hown rfl).isIn)
    have hsz := hbr.size
    clear hown hbr
    by_cases hlt : j < K
    · obtain ⟨x, hx⟩ : ∃ x, x = xs.getD j 0 := ⟨_, rfl⟩
      obtain ⟨g, q, rfl⟩ : ∃ g, wr.cell? ⟨g, j, none⟩ = some (.int .i64 x) ∧ a = some ⟨g, 0, none⟩ := by
        obtain ⟨a', cap', he, hh⟩ := HX.out
        obtain ⟨g, rfl, hgl, hr⟩ := hh (by intro e; rw [e] at HK; have := HK.out; simp at this; omega)
        injection he with h1 h2 h3
        subst h1
        rw [hx]
        exact ⟨g, (HBR.out.cell (p := ⟨g, j, none⟩) hgl).trans (hr j (by rw [← HK.out]; exact hlt)).1, rfl⟩
      obtain ⟨x0, x1⟩ := HALL.out j hlt
      have HTHJ := Lib.hid (HTH.out j hlt)
      have HNWJ := Lib.hid (HNW.out j hlt)
      rw [← hx] at x0 x1 HTHJ HNWJ
      have hlen : (wlist t p L xs j).length ≤ 100 := by have := HLE.out j; omega
      have HWO := Lib.hid (fun w => woOf_any t p x L w HG.out hL (by omega) (by omega))
      obtain ⟨s, hs⟩ : ∃ s, s = wtx t p L x := ⟨_, rfl⟩
      rw [wtx_wby, ← hs] at HWO
      rw [← hs] at HTHJ HNWJ
      obtain ⟨l, hl⟩ : ∃ l, l = wlist t p L xs j := ⟨_, rfl⟩
      rw [← hl] at HO HSI HTHJ HNWJ hlen
      have HHS := Lib.hid (fun w v (h : StrsIn w v l) => l1HasS_any l s v w (by omega) h)
      have hj0 : (0 : Int) ≤ (j : Int) := by omega
      have hj1 : (j : Int) < (K : Int) := by omega
      clear hx hs hl
      cases hc : (l.any fun y => sEq y s)
      case true =>
        rw [hc] at HHS
        have HSC := Lib.hid (HTHJ.out hc)
        clear hc
        go_wp2_with fail
        refine (HWO.out _).mono ?_
        rintro e w2 ⟨rfl, hb2⟩
        have d0 := kept_cell hb2 hz c0
        have d1 := kept_cell hb2 hz c1
        have HS2 := Lib.hid (HSI.out.kept hb2)
        have HO2 := Lib.hid (ownsRow_kept HO.out hb2)
        have hz2 := Nat.lt_of_lt_of_le hz hb2.size
        have HBR2 := Lib.hid (HBR.out.trans (hb2.mono (Nat.le_of_lt hz)))
        clear hb2 c0 c1
        go_wp2_with (go_at_call 42; refine (HHS.out _ _ HS2.out).mono ?_; rintro e w' ⟨rfl, rfl⟩)
        exact ⟨⟨j + 1, hlt, by go_num, by rw [HSC.out]; exact HO2.out, d0, d1, hz2, HBR2.out⟩, by simp [intOf]; omega⟩
      case false =>
        rw [hc] at HHS
        have HSC := Lib.hid (HNWJ.out hc)
        have hj3 : l.length + 1 ≤ maxLen := by unfold maxLen; omega
        clear hc
        go_wp2_with fail
        refine (HWO.out _).mono ?_
        rintro e w2 ⟨rfl, hb2⟩
        have d0 := kept_cell hb2 hz c0
        have d1 := kept_cell hb2 hz c1
        have HS2 := Lib.hid (HSI.out.kept hb2)
        have HO2 := Lib.hid (ownsRow_kept HO.out hb2)
        have hz2 := Nat.lt_of_lt_of_le hz hb2.size
        have HBR2 := Lib.hid (HBR.out.trans (hb2.mono (Nat.le_of_lt hz)))
        clear hb2 c0 c1
        go_wp2_with (first
          | (go_at_call 42; refine (HHS.out _ _ HS2.out).mono ?_; rintro e w' ⟨rfl, rfl⟩)
          | (at_builtin; refine wpList_append_own _ rfl _ _ 62 rfl (w.heap.size + 1) 9 i0 (.string ⟨#[]⟩) 1 16 Tryd.underlying62 hi hi0 hi1 hi2 rfl (by decide) _ _ _ rfl (HO2.out.alloc _) ⟨w2.heap.size, 0, none⟩ 1 1 [.string s] rfl rfl ?_ ?_ ?_ ?_ ?_ ?_; rotate_right; intro v' w4 hown4 hgrow _))
        · have hbg : Below (w.heap.size + 1) w2 w4 := ((Below.refl (w.heap.size + 1) w2).alloc (by omega) _).grown hgrow (by simp; omega) (fun k e => (HO2.out.lt k e).1)
          refine ⟨⟨j + 1, hlt, by go_num, ?_, (hbg.cell (p := ⟨w.heap.size, 0, none⟩) (Nat.lt_succ_self _)).trans d0, (hbg.cell (p := ⟨w.heap.size, 1, none⟩) (Nat.lt_succ_self _)).trans d1, Nat.lt_of_lt_of_le hz2 hbg.size, HBR2.out.trans (hbg.mono (by omega))⟩, by simp [intOf]; omega⟩
          rw [HSC.out, List.map_append, List.length_append]
          exact hown4
        · exact fun j u hu => new_cell _ _ _ hu
        · simp [Value.oneCell']
        · exact hj3
        · omega
        · simp; omega
    · obtain rfl : j = K := by omega
      obtain ⟨a', cap', rfl, _⟩ := HSI.out
      clear c0 c1
      go_wp2_with fail
      go_ret2
      exact ⟨rfl, HBR.out⟩
end Go.Proofs.YteekglabcimfpaaDoor
