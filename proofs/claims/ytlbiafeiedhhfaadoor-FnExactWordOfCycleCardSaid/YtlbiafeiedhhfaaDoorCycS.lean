/-
  'CycleOf', 'LeadOf', 'IsOnCycle' of the model.
-/
import Derived.Test.YtlbiafeiedhhfaaDoorCyc
namespace Go.Proofs.YtlbiafeiedhhfaaDoor
open Go.RowKit
set_option linter.unusedVariables false

/-- 'cyTurn' at the part of a path that is a cycle. -/
theorem cyTurn_path (t p n : Int) (K i L g cap : Nat) (w : World) (hF : Fnd (nx t p) n K i) (hL : K - i = L + 1) (hrow : IntRow w g (wayL (nx t p) n K)) (hg : g < w.heap.size) (hcap : K ≤ cap) (hcm : cap ≤ maxLen) :
    Calls Tryd.prog 16 #[.slice (some ⟨g, i, none⟩) (L + 1) (cap - i)] w fun e w' => ∃ v, e = .returned v ∧ IntsAt w' w.heap.size v (cycT (nx t p) n K i) ∧ Below w.heap.size w w' := by
  have hl := hF.le
  have h := (part_of_row hrow).drop i
  rw [way_drop, Nat.zero_add] at h
  have e1 : (cycL (nx t p) n K i).length = L + 1 := by rw [cycL_length, hL]
  refine (cyTurn_any g i (cap - i) L (cycL (nx t p) n K i) w e1 (by omega) (by omega) (by omega) h hg).mono ?_
  rintro e w' ⟨v, rfl, hr, hb⟩
  have e2 : far false (fun j => (cycL (nx t p) n K i).getD j 0) L = leastJ (nx t p) n K i := by
    unfold leastJ
    rw [show K - i - 1 = L by omega]
    exact far_congr fun j hj => cycL_at (by omega)
  rw [e2, hF.turn (leastJ_lt hF.lt)] at hr
  exact ⟨v, rfl, hr, hb⟩

set_option maxHeartbeats 2000000 in
theorem sCycleOf (t p n : Int) (w : World) :
    Calls Tryd.prog 7 #[.agg #[.int .i64 t, .int .i64 p], .int .i64 n] w (RetInts (cyL t p n) (cyA t p n).isSome w) := by
  have HM := Lib.hid (fun w => mpGood_any t p w)
  have HN := Lib.hid (fun w => mpIs_any n w)
  cases hg : goodB t p
  · have HY := Lib.hid (cyL_none (cyA_bad (n := n) hg))
    have HA : Hid ((cyA t p n).isSome = false) := Lib.hid (by rw [cyA_bad hg]; rfl)
    rw [hg] at HM
    clear hg
    go_enter Tryd.func7, Tryd.ntmps7
    go_wp2_with fail
    refine (HM.out _).mono ?_
    rintro e w1 ⟨rfl, hb1⟩
    obtain ⟨c0, c1, hz, hb⟩ := map_block hb1
    clear hb1
    go_wp2_with fail
    go_ret2
    exact retI_none HY.out HA.out hb
  · rw [hg] at HM
    cases hn : numB n
    · have HY := Lib.hid (cyL_none (cyA_num (t := t) (p := p) hn))
      have HA : Hid ((cyA t p n).isSome = false) := Lib.hid (by rw [cyA_num hn]; rfl)
      rw [hn] at HN
      clear hg hn
      go_enter Tryd.func7, Tryd.ntmps7
      go_wp2_with fail
      refine (HM.out _).mono ?_
      rintro e w1 ⟨rfl, hb1⟩
      obtain ⟨c0, c1, hz, hb⟩ := map_block hb1
      clear hb1
      go_wp2_with (go_at_call 14; refine (HN.out _).mono ?_; rintro e w' ⟨rfl, rfl⟩)
      go_ret2
      exact retI_none HY.out HA.out hb
    · rw [hn] at HN
      have HS := Lib.hid (fun w => cyFind_any t p n w hg)
      have hcg := cyA_good (n := n) hg
      rw [← hcg] at HS
      clear hg hn hcg
      go_enter Tryd.func7, Tryd.ntmps7
      go_wp2_with fail
      refine (HM.out _).mono ?_
      rintro e w1 ⟨rfl, hb1⟩
      obtain ⟨c0, c1, hz, hb⟩ := map_block hb1
      clear hb1
      go_wp2_with (go_at_call 14; refine (HN.out _).mono ?_; rintro e w' ⟨rfl, rfl⟩)
      refine (HS.out _).mono ?_
      rintro e w2 (⟨K, i, v, ho, rfl, hrow, hb2⟩ | ⟨ho, rfl, hb2⟩)
      · have HB := Lib.hid (hb.trans (hb2.mono (Nat.le_of_lt hz)))
        have hzs : w.heap.size ≤ w2.heap.size := HB.out.size
        obtain ⟨_, _, hF⟩ := cyA_some ho
        have hlt := hF.lt
        have hle := hF.le
        obtain ⟨g, cap, rfl, hg1, hg2, hcap, hcm, hir⟩ := ints_row hrow (by rw [wayL_length]; omega)
        rw [wayL_length] at hcap ⊢
        obtain ⟨L, hL⟩ : ∃ L, K - i = L + 1 := ⟨K - i - 1, by omega⟩
        have HT := Lib.hid (fun w h1 h2 => cyTurn_path t p n K i L g cap w hF hL h1 h2 hcap hcm)
        have HIR := Lib.hid hir
        have HY := Lib.hid (cyL_some ho)
        have HA : Hid ((cyA t p n).isSome = true) := Lib.hid (by rw [ho]; rfl)
        have hi1 : (i : Int) ≤ (K : Int) := by omega
        have hi2 : (K : Int) ≤ (cap : Int) := by omega
        have hi3 : (i : Int) ≤ (cap : Int) := by omega
        have hi4 : (cap : Int) ≤ 9223372036854775807 := by unfold maxLen at hcm; omega
        have hci : ¬ (cap = i) := by omega
        clear hrow hb2 hb c0 c1 hF hir ho
        go_wp2_with fail
        refine (HT.out _ HIR.out hg2).mono ?_
        rintro e w3 ⟨v3, rfl, hr3, hb3⟩
        have HB3 := Lib.hid (HB.out.trans (hb3.mono hzs))
        have HR3 : Hid (IntsAt w3 w.heap.size v3 (cyL t p n)) := Lib.hid (by rw [HY.out]; exact ownsRow_base hr3 hzs)
        clear hr3 hb3
        go_wp2_with fail
        go_ret2
        rw [HA.out]
        exact ⟨v3, rfl, HR3.out, HB3.out⟩
      · have HB := Lib.hid (hb.trans (hb2.mono (Nat.le_of_lt hz)))
        have HY := Lib.hid (cyL_none ho)
        have HA : Hid ((cyA t p n).isSome = false) := Lib.hid (by rw [ho]; rfl)
        clear hb2 hb c0 c1 ho
        go_wp2_with fail
        go_ret2
        exact retI_none HY.out HA.out HB.out

end Go.Proofs.YtlbiafeiedhhfaaDoor
