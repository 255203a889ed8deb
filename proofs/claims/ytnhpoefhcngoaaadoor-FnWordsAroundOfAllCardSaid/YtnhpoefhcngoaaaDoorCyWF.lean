/-
  'CycleWords', 'CountCycleWords' of both.
-/
import Derived.Test.YtnhpoefhcngoaaaDoorCyAll
namespace Go.Proofs.YtnhpoefhcngoaaaDoor
open Go.RowKit
set_option linter.unusedVariables false

/-- Are there a map and a length? -/
def askK (t p k : Int) : Bool := goodB t p && inB k 1 10
/-- What CycleWords comes to. -/
def cwA (t p k : Int) : List ByteArray := if askK t p k = true then cwX t p k.toNat else []
theorem cwA_yes {t p : Int} {L : Nat} (h : askK t p L = true) : cwA t p L = cwX t p L := by rw [cwA, if_pos h]; rfl
theorem cwA_no {t p k : Int} (h : askK t p k = false) : cwA t p k = [] := by rw [cwA, if_neg (by simp [h])]
theorem askK_iff {t p k : Int} : askK t p k = true ↔ goodB t p = true ∧ 1 ≤ k ∧ k ≤ 10 := by simp [askK, inB]
theorem cwA_len (t p k : Int) : (cwA t p k).length ≤ 900 := by
  unfold cwA
  split
  · rename_i h
    have := askK_iff.1 h
    exact cwX_len t p (by omega)
  · simp
theorem filter_yes {α : Type} {f : α → Bool} {xs : List α} {j : Nat} (hj : j < xs.length) (h : f xs[j] = true) : (xs.take (j + 1)).filter f = (xs.take j).filter f ++ [xs[j]] := by
  rw [List.take_succ_eq_append_getElem hj, List.filter_append]
  simp [h]
theorem filter_no {α : Type} {f : α → Bool} {xs : List α} {j : Nat} (hj : j < xs.length) (h : f xs[j] = false) : (xs.take (j + 1)).filter f = (xs.take j).filter f := by
  rw [List.take_succ_eq_append_getElem hj, List.filter_append]
  simp [h]
theorem cwB_is {t p : Int} {s : ByteArray} (hg : goodB t p = true) (hw : turnB s = true) : cwB t p s = cwl t p s.data.toList ∧ askT t p s = true := by
  refine ⟨?_, by rw [askT, hg, hw]; rfl⟩
  rw [cwB, now, if_pos ⟨hg, hw⟩]
  rfl

set_option maxRecDepth 100000 in
set_option maxHeartbeats 8000000 in
theorem iCycleWords_yes (t p : Int) (L : Nat) (w : World) (hg : goodB t p = true) (h1 : 1 ≤ L) (hL : L ≤ 10) (htab : Tab w) (hm : TabM w) :
    Calls Tryd.prog 13 #[.agg #[.int .i64 t, .int .i64 p], .int .i64 (L : Int)] w (RetStrs (cwX t p L) true w) := by
  have HM := Lib.hid (fun w => isMap_any t p w)
  have HI := Lib.hid (fun w => isTurnLength_any (L : Int) w)
  rw [hg] at HM
  rw [show inB (L : Int) 1 10 = true by simp [inB]; omega] at HI
  have HT := Lib.hid htab
  have HTM := Lib.hid hm
  have HF := Lib.hid (fun w h h' => firstTurns_any L w h1 hL h h')
  have HFIL : Hid (cwX t p L = (selX ftB L (2 ^ L)).filter (fun s => cwl t p s.data.toList)) := Lib.hid (selX_filter ftB (cwl t p) L (2 ^ L)).symm
  have hlen := ftX_len hL
  have HTB : Hid (∀ s, s ∈ selX ftB L (2 ^ L) → turnB s = true) := Lib.hid (fun s hs => by
    obtain ⟨x, _, rfl, _⟩ := selX_mem hs
    exact turn_pw x h1 hL)
  generalize selX ftB L (2 ^ L) = xs at HF HFIL hlen HTB
  have HIS := Lib.hid (fun s w => iIsCycleWord t p s w)
  have HG := Lib.hid hg
  obtain ⟨i0, hi, hi0, hi1, hi2⟩ := info_parts infoS
  clear hg htab hm
  rw [HFIL.out]
  go_enter Tryd.func13, Tryd.ntmps13
  go_wp2_with fail
  refine (HM.out _).mono ?_
  rintro e w1 ⟨rfl, hb1⟩
  obtain ⟨c0, c1, hz1, hb⟩ := map_block hb1
  have HTB1 := Lib.hid (tab_below HT.out hb (Nat.le_refl _))
  have HTM1 := Lib.hid (tabM_below HTM.out hb (tabM_lt HTM.out))
  clear hb1
  go_wp2_with (go_at_call 37; refine (HI.out _).mono ?_; rintro e w' ⟨rfl, rfl⟩)
  refine (HF.out _ HTB1.out HTM1.out).mono ?_
  rintro e w2 ⟨v2, rfl, hrow2, hb2⟩
  have d0 := kept_cell hb2 hz1 c0
  have d1 := kept_cell hb2 hz1 c1
  have hz2 := Nat.lt_of_lt_of_le hz1 hb2.size
  have HB2 := Lib.hid (hb.trans (hb2.mono (Nat.le_of_lt hz1)))
  have hsz2 := HB2.out.size
  clear hb2 hb c0 c1
  rcases hrow2.cases with ⟨rfl, rfl⟩ | ⟨g, cap, rfl, hg1, hg2, hml, hrow⟩
  · clear hrow2
    go_wp2_with fail
    refine wp_loop_rounds 1 ?_
    rw [rounds_succ]
    go_wp2_with fail
    go_ret2
    exact retS_some (World.ownsRow_nil _ _ _ _) rfl HB2.out
  · have HROW := Lib.hid hrow
    obtain ⟨M, hM⟩ : ∃ M, M = xs.length := ⟨_, rfl⟩
    rw [← hM] at hml hlen ⊢
    have HML := Lib.hid hM
    have hMi : (M : Int) ≤ 900 := by omega
    clear hrow hrow2 hM hg1
    go_wp2_with fail
    go_loopw [6, 22] (fun v x wr => ∃ j : Nat, j ≤ M ∧ x = .int .i64 j ∧ wr.ownsRow w2.heap.size 9 1 v ((xs.take j).filter (fun s => cwl t p s.data.toList)).length (((xs.take j).filter (fun s => cwl t p s.data.toList)).map Value.string) ∧ wr.cell? ⟨w.heap.size, 0, none⟩ = some (.int .i64 t) ∧ wr.cell? ⟨w.heap.size, 1, none⟩ = some (.int .i64 p) ∧ w.heap.size < wr.heap.size ∧ Below w2.heap.size w2 wr) (fun _ x _ => M - (intOf x).toNat)
    case atStart => exact ⟨0, by omega, rfl, World.ownsRow_nil _ _ _ _, d0, d1, hz2, Below.refl _ _⟩
    case round =>
      obtain ⟨j, hj, rfl, hown, c0, c1, hz, hbs⟩ := hrel
      have HO := Lib.hid hown
      have HBS := Lib.hid hbs
      have hszr := hbs.size
      have hfl : ((xs.take j).filter (fun s => cwl t p s.data.toList)).length ≤ 900 := Nat.le_trans (List.length_filter_le _ _) (by rw [List.length_take]; omega)
      clear hown hbs d0 d1
      by_cases hlt : j < M
      · have hjM : (j : Int) < (M : Int) := by omega
        have hlt2 : j < xs.length := by rw [← HML.out]; exact hlt
        have q : wr.cell? ⟨g, j, none⟩ = some (.string xs[j]) := by
          rw [HBS.out.cell (p := ⟨g, j, none⟩) hg2, (HROW.out j hlt2).1]
          simp [List.getD_eq_getElem?_getD, hlt2]
        obtain ⟨k1, k2⟩ := cwB_is HG.out (HTB.out xs[j] (List.getElem_mem hlt2))
        have HISJ := Lib.hid (fun w => HIS.out xs[j] w)
        rw [k1, k2] at HISJ
        have HYES := Lib.hid (fun h => filter_yes (f := fun s => cwl t p s.data.toList) hlt2 h)
        have HNO := Lib.hid (fun h => filter_no (f := fun s => cwl t p s.data.toList) hlt2 h)
        generalize (xs.take j).filter (fun s => cwl t p s.data.toList) = ys at HO HYES HNO hfl ⊢
        generalize xs[j] = s at q HISJ HYES HNO
        generalize cwl t p s.data.toList = cw at HISJ HYES HNO
        have hj3 : ys.length + 1 ≤ maxLen := by unfold maxLen; omega
        clear k1 k2 hlt2
        cases cw
        · have HNO2 := Lib.hid (HNO.out rfl)
          go_wp2_with fail
          refine (HISJ.out _).mono ?_
          rintro e w3 ⟨rfl, hb3⟩
          have e0 := kept_cell hb3 hz c0
          have e1 := kept_cell hb3 hz c1
          have hz3 := Nat.lt_of_lt_of_le hz hb3.size
          have HO3 := Lib.hid (ownsRow_kept HO.out hb3)
          have HBS3 := Lib.hid (HBS.out.trans (hb3.mono hszr))
          clear hb3 c0 c1
          go_wp2_with fail
          exact ⟨⟨j + 1, hlt, by go_num, by rw [HNO2.out]; exact HO3.out, e0, e1, hz3, HBS3.out⟩, by simp [intOf]; omega⟩
        · have HYES2 := Lib.hid (HYES.out rfl)
          go_wp2_with fail
          refine (HISJ.out _).mono ?_
          rintro e w3 ⟨rfl, hb3⟩
          have e0 := kept_cell hb3 hz c0
          have e1 := kept_cell hb3 hz c1
          have hz3 := Nat.lt_of_lt_of_le hz hb3.size
          have HO3 := Lib.hid (ownsRow_kept HO.out hb3)
          have HBS3 := Lib.hid (HBS.out.trans (hb3.mono hszr))
          have hsz3 := HBS3.out.size
          clear hb3 c0 c1
          go_wp2_with (at_builtin; refine wpList_append_own _ rfl _ _ 36 rfl w2.heap.size 9 i0 (.string ⟨#[]⟩) 1 16 Tryd.underlying36 hi hi0 hi1 hi2 rfl (by decide) _ _ _ rfl (HO3.out.alloc _) ⟨w3.heap.size, 0, none⟩ 1 1 [.string s] rfl rfl (fun j u hu => new_cell _ _ _ hu) (by simp [Value.oneCell']) hj3 (by omega) (by simp; omega) ?_; intro v' w4 hown4 hgrow _)
          have hbg : Below w2.heap.size w3 w4 := ((Below.refl w2.heap.size w3).alloc hsz3 _).grown hgrow (by simp; omega) (fun k e => (HO3.out.lt k e).1)
          refine ⟨⟨j + 1, hlt, by go_num, ?_, (hbg.cell (p := ⟨w.heap.size, 0, none⟩) hz2).trans e0, (hbg.cell (p := ⟨w.heap.size, 1, none⟩) hz2).trans e1, Nat.lt_of_lt_of_le hz3 hbg.size, HBS3.out.trans hbg⟩, by simp [intOf]; omega⟩
          rw [HYES2.out, List.map_append, List.length_append]
          exact hown4
      · obtain rfl : j = M := by omega
        have hjj : ¬ ((j : Int) < (j : Int)) := by omega
        have HTK : Hid (xs.take j = xs) := Lib.hid (by rw [HML.out]; exact List.take_length)
        go_wp2_with fail
        go_ret2
        have ho := ownsRow_base HO.out (B' := w.heap.size) hsz2
        rw [HTK.out] at ho
        exact retS_some ho rfl (HB2.out.trans (HBS.out.mono hsz2))

set_option maxHeartbeats 2000000 in
theorem iCycleWords (t p k : Int) (w : World) (htab : Tab w) (hm : TabM w) :
    Calls Tryd.prog 13 #[.agg #[.int .i64 t, .int .i64 p], .int .i64 k] w (RetStrs (cwA t p k) (askK t p k) w) := by
  cases ha : askK t p k
  · have HY := Lib.hid (cwA_no ha)
    have HM := Lib.hid (fun w => isMap_any t p w)
    have HI := Lib.hid (fun w => isTurnLength_any k w)
    cases hg : goodB t p
    · rw [hg] at HM
      clear hg ha htab hm
      go_enter Tryd.func13, Tryd.ntmps13
      go_wp2_with fail
      refine (HM.out _).mono ?_
      rintro e w1 ⟨rfl, hb1⟩
      obtain ⟨c0, c1, hz1, hb⟩ := map_block hb1
      clear hb1
      go_wp2_with fail
      go_ret2
      exact retS_none HY.out rfl hb
    · have hi : inB k 1 10 = false := by rw [askK, hg] at ha; exact ha
      rw [hg] at HM
      rw [hi] at HI
      clear hg ha hi htab hm
      go_enter Tryd.func13, Tryd.ntmps13
      go_wp2_with fail
      refine (HM.out _).mono ?_
      rintro e w1 ⟨rfl, hb1⟩
      obtain ⟨c0, c1, hz1, hb⟩ := map_block hb1
      clear hb1
      go_wp2_with (go_at_call 37; refine (HI.out _).mono ?_; rintro e w' ⟨rfl, rfl⟩)
      go_ret2
      exact retS_none HY.out rfl hb
  · obtain ⟨hg, k1, k2⟩ := askK_iff.1 ha
    obtain ⟨L, rfl⟩ : ∃ L : Nat, k = L := ⟨k.toNat, by omega⟩
    rw [cwA_yes ha]
    exact iCycleWords_yes t p L w hg (by omega) (by omega) htab hm

set_option maxHeartbeats 2000000 in
theorem sCycleWords (t p k : Int) (w : World) :
    Calls Tryd.prog 14 #[.agg #[.int .i64 t, .int .i64 p], .int .i64 k] w (RetStrs (cwA t p k) (askK t p k) w) := by
  have HM := Lib.hid (fun w => mpGood_any t p w)
  have HI := Lib.hid (fun w => l1In_any k 1 10 w)
  cases hg : goodB t p
  · have ha : askK t p k = false := by rw [askK, hg]; rfl
    have HY := Lib.hid (cwA_no ha)
    have HA := Lib.hid ha
    rw [hg] at HM
    clear hg ha
    go_enter Tryd.func14, Tryd.ntmps14
    go_wp2_with fail
    refine (HM.out _).mono ?_
    rintro e w1 ⟨rfl, hb1⟩
    obtain ⟨c0, c1, hz1, hb⟩ := map_block hb1
    clear hb1
    go_wp2_with fail
    go_ret2
    exact retS_none HY.out HA.out hb
  · rw [hg] at HM
    cases hi : inB k 1 10
    · have ha : askK t p k = false := by rw [askK, hg, hi]; rfl
      have HY := Lib.hid (cwA_no ha)
      have HA := Lib.hid ha
      rw [hi] at HI
      clear hg ha hi
      go_enter Tryd.func14, Tryd.ntmps14
      go_wp2_with fail
      refine (HM.out _).mono ?_
      rintro e w1 ⟨rfl, hb1⟩
      obtain ⟨c0, c1, hz1, hb⟩ := map_block hb1
      clear hb1
      go_wp2_with (go_at_call 39; refine (HI.out _).mono ?_; rintro e w' ⟨rfl, rfl⟩)
      go_ret2
      exact retS_none HY.out HA.out hb
    · have ha : askK t p k = true := by rw [askK, hg, hi]; rfl
      obtain ⟨_, k1, k2⟩ := askK_iff.1 ha
      obtain ⟨L, rfl⟩ : ∃ L : Nat, k = L := ⟨k.toNat, by omega⟩
      have HC := Lib.hid (fun w => cyAll_any t p L w hg (by omega) (by omega))
      have HA := Lib.hid ha
      rw [cwA_yes ha]
      rw [hi] at HI
      clear hg ha hi
      go_enter Tryd.func14, Tryd.ntmps14
      go_wp2_with fail
      refine (HM.out _).mono ?_
      rintro e w1 ⟨rfl, hb1⟩
      obtain ⟨c0, c1, hz1, hb⟩ := map_block hb1
      have HB := Lib.hid hb
      clear hb1 hb
      go_wp2_with (go_at_call 39; refine (HI.out _).mono ?_; rintro e w' ⟨rfl, rfl⟩)
      refine (HC.out _).mono ?_
      rintro e w2 ⟨v2, rfl, hr2, hb2⟩
      have HR2 : Hid (StrsAt w2 w.heap.size v2 (cwX t p L)) := Lib.hid (ownsRow_base hr2 (Nat.le_of_lt hz1))
      have HB2 := Lib.hid (HB.out.trans (hb2.mono (Nat.le_of_lt hz1)))
      clear hr2 hb2
      go_wp2_with fail
      go_ret2
      exact retS_some HR2.out HA.out HB2.out

theorem ret_nk {x y : Int} {a b : Bool} (h : x = y) (h' : a = b) : Ending.returned (.tuple #[.int .i64 x, .bool a]) = .returned (.tuple #[.int .i64 y, .bool b]) := by rw [h, h']
theorem strs_form {w : World} {B : Nat} {v : Value} {xs : List ByteArray} (h : StrsAt w B v xs) : ∃ a cap, v = .slice a xs.length cap := by
  rcases h.cases with ⟨rfl, rfl⟩ | ⟨g, cap, rfl, _⟩
  · exact ⟨none, 0, rfl⟩
  · exact ⟨_, cap, rfl⟩
set_option maxHeartbeats 2000000 in
theorem iCountCycleWords (t p k : Int) (w : World) (htab : Tab w) (hm : TabM w) :
    Calls Tryd.prog 15 #[.agg #[.int .i64 t, .int .i64 p], .int .i64 k] w fun e w' => e = .returned (.tuple #[.int .i64 ((cwA t p k).length : Nat), .bool (askK t p k)]) ∧ Below w.heap.size w w' := by
  have HT := Lib.hid htab
  have HTM := Lib.hid hm
  have HC := Lib.hid (fun w h h' => iCycleWords t p k w h h')
  generalize cwA t p k = xs at HC ⊢
  generalize askK t p k = ok at HC ⊢
  clear htab hm
  go_enter Tryd.func15, Tryd.ntmps15
  go_wp2_with fail
  have hb0 : Below w.heap.size w (w.alloc (.cells #[.int .i64 t, .int .i64 p] 23)) := (Below.refl _ w).alloc (Nat.le_refl _) _
  refine (HC.out _ (tab_below HT.out hb0 (Nat.le_refl _)) (tabM_below HTM.out hb0 (tabM_lt HTM.out))).mono ?_
  rintro e w2 ⟨v2, rfl, hr2, hb2⟩
  obtain ⟨a, cap, rfl⟩ := strs_form hr2
  have HB2 := Lib.hid (hb0.trans (hb2.mono (by simp)))
  clear hr2 hb2 hb0
  go_wp2_with fail
  go_ret2
  exact ⟨rfl, HB2.out⟩
set_option maxHeartbeats 2000000 in
theorem sCountCycleWords (t p k : Int) (w : World) :
    Calls Tryd.prog 16 #[.agg #[.int .i64 t, .int .i64 p], .int .i64 k] w fun e w' => e = .returned (.tuple #[.int .i64 ((cwA t p k).length : Nat), .bool (askK t p k)]) ∧ Below w.heap.size w w' := by
  have HM := Lib.hid (fun w => mpGood_any t p w)
  have HI := Lib.hid (fun w => l1In_any k 1 10 w)
  cases hg : goodB t p
  · have ha : askK t p k = false := by rw [askK, hg]; rfl
    have HY := Lib.hid (cwA_no ha)
    have HA := Lib.hid ha
    rw [hg] at HM
    clear hg ha
    go_enter Tryd.func16, Tryd.ntmps16
    go_wp2_with fail
    refine (HM.out _).mono ?_
    rintro e w1 ⟨rfl, hb1⟩
    obtain ⟨c0, c1, hz1, hb⟩ := map_block hb1
    clear hb1
    go_wp2_with fail
    go_ret2
    exact ⟨ret_nk (by rw [HY.out]; rfl) HA.out.symm, hb⟩
  · rw [hg] at HM
    cases hi : inB k 1 10
    · have ha : askK t p k = false := by rw [askK, hg, hi]; rfl
      have HY := Lib.hid (cwA_no ha)
      have HA := Lib.hid ha
      rw [hi] at HI
      clear hg ha hi
      go_enter Tryd.func16, Tryd.ntmps16
      go_wp2_with fail
      refine (HM.out _).mono ?_
      rintro e w1 ⟨rfl, hb1⟩
      obtain ⟨c0, c1, hz1, hb⟩ := map_block hb1
      clear hb1
      go_wp2_with (go_at_call 39; refine (HI.out _).mono ?_; rintro e w' ⟨rfl, rfl⟩)
      go_ret2
      exact ⟨ret_nk (by rw [HY.out]; rfl) HA.out.symm, hb⟩
    · have ha : askK t p k = true := by rw [askK, hg, hi]; rfl
      obtain ⟨_, k1, k2⟩ := askK_iff.1 ha
      obtain ⟨L, rfl⟩ : ∃ L : Nat, k = L := ⟨k.toNat, by omega⟩
      have HC := Lib.hid (fun w => cyAll_any t p L w hg (by omega) (by omega))
      have HA := Lib.hid ha
      rw [cwA_yes ha]
      generalize cwX t p L = xs at HC ⊢
      rw [hi] at HI
      clear hg ha hi
      go_enter Tryd.func16, Tryd.ntmps16
      go_wp2_with fail
      refine (HM.out _).mono ?_
      rintro e w1 ⟨rfl, hb1⟩
      obtain ⟨c0, c1, hz1, hb⟩ := map_block hb1
      have HB := Lib.hid hb
      clear hb1 hb
      go_wp2_with (go_at_call 39; refine (HI.out _).mono ?_; rintro e w' ⟨rfl, rfl⟩)
      refine (HC.out _).mono ?_
      rintro e w2 ⟨v2, rfl, hr2, hb2⟩
      obtain ⟨a, cap, rfl⟩ := strs_form hr2
      have HB2 := Lib.hid (HB.out.trans (hb2.mono (Nat.le_of_lt hz1)))
      clear hr2 hb2
      go_wp2_with fail
      go_ret2
      exact ⟨ret_nk rfl HA.out.symm, HB2.out⟩
end Go.Proofs.YtnhpoefhcngoaaaDoor
