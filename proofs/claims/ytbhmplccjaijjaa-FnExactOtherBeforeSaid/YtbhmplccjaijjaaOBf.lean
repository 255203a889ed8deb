/-
  'OtherBefore' of the model and of the program.
-/
import Derived.Test.YtbhmplccjaijjaaBfO
import Derived.Test.YtbhmplccjaijjaaOtI
import Derived.Test.YtbhmplccjaijjaaSv
import Derived.Test.YtbhmplccjaijjaaSrtR
namespace Go.Proofs.Ytbhmplccjaijjaa
open Go.RowKit
set_option linter.unusedVariables false

theorem IntsIn.rdO {w : World} {v : Value} {xs : List Int} (h : IntsIn w v xs) : ∃ a cap, v = .slice a xs.length cap ∧ ∀ j, j < xs.length → ∃ g, a = some ⟨g, 0, none⟩ ∧ g < w.heap.size ∧ w.cell? ⟨g, j, none⟩ = some (.int .i64 (xs.getD j 0)) := by
  obtain ⟨a, cap, rfl, hx⟩ := h
  refine ⟨a, cap, rfl, fun j hj => ?_⟩
  obtain ⟨g, rfl, hg, hr⟩ := hx (by rintro rfl; simp at hj)
  exact ⟨g, rfl, hg, (hr j hj).1⟩
theorem Touch.below_new {W W' : World} {n : Nat} (h : Touch 0 0 W W') (hn : n ≤ W.heap.size) : Below n W W' :=
  ⟨h.os, h.tape, h.output, h.size, fun k hk => h.block k (by omega) (by omega)⟩
theorem bfB_not {ps : List Pt} {n : Int} (h : bfB ps n = false) : bfR ps n = [] := by rw [bfR, h]; rfl
theorem ft_yes {xs : List Int} {j : Nat} (h : j < xs.length) (hg : numB (xs.getD j 0) = true) : (xs.take (j + 1)).filter numB = (xs.take j).filter numB ++ [xs.getD j 0] := filter_snoc_yes h hg
theorem ft_no {xs : List Int} {j : Nat} (h : j < xs.length) (hg : numB (xs.getD j 0) = false) : (xs.take (j + 1)).filter numB = (xs.take j).filter numB := filter_snoc_no h hg

set_option maxRecDepth 100000 in
set_option maxHeartbeats 4000000 in
theorem sOtherBefore (ps : List Pt) (n : Int) (v : Value) (w : World) (hl : ps.length ≤ 1048576) (h : OthIn w v ps) :
    Calls Try.prog 30 #[v, .int .i64 n] w (RetRow (bfR ps n) (bfB ps n) w) := by
  obtain ⟨u, rfl, hpi⟩ := h
  have HOI := Lib.hid (fun W (hb : Below w.heap.size w W) => (show OthIn w (.agg #[u]) ps from ⟨u, rfl, hpi⟩).kept hb)
  have HG := Lib.hid (fun X => omGood_any ps (.agg #[u]) (w.alloc X) hl (HOI.out _ (below_new w X)))
  have HB := Lib.hid (fun X => below_new w X)
  have HBo := Lib.hid (fun T => Bo.new w u T)
  have HN := Lib.hid (fun w => mpIs_any n w)
  clear hpi hl
  by_cases hg : omB ps = true
  case neg =>
    have hg' : omB ps = false := by simpa using hg
    have HE : Hid (bfB ps n = false) := Lib.hid (by simp [bfB, hg'])
    have HL := Lib.hid (bfB_not HE.out)
    rw [hg'] at HG
    rw [HE.out, HL.out]
    clear hg hg'
    go_enter Try.func30, Try.ntmps30
    go_wp2_with fail
    refine (HG.out _).mono ?_
    rintro e w1 ⟨rfl, hb1⟩
    have HB1 := Lib.hid ((HB.out _).trans (hb1.mono (HB.out _).size))
    clear hb1
    go_wp2_with fail
    go_ret2
    exact ⟨_, rfl, rowAt_nil _ _, HB1.out⟩
  case pos =>
    rw [hg] at HG
    by_cases hn : numB n = true
    case neg =>
      have hn' : numB n = false := by simpa using hn
      have HE : Hid (bfB ps n = false) := Lib.hid (by simp [bfB, hn'])
      have HL := Lib.hid (bfB_not HE.out)
      rw [hn'] at HN
      rw [HE.out, HL.out]
      clear hg hn hn'
      go_enter Try.func30, Try.ntmps30
      go_wp2_with fail
      refine (HG.out _).mono ?_
      rintro e w1 ⟨rfl, hb1⟩
      have HB1 := Lib.hid ((HB.out _).trans (hb1.mono (HB.out _).size))
      clear hb1
      go_wp2_with fail
      refine (HN.out _).mono ?_
      rintro e w2 ⟨rfl, rfl⟩
      go_wp2_with fail
      go_ret2
      exact ⟨_, rfl, rowAt_nil _ _, HB1.out⟩
    case pos =>
      have HE : Hid (bfB ps n = true) := Lib.hid (by simp [bfB, hg, hn])
      have HL : Hid (bfR ps n = (srtI (bfO ps n)).filter numB) := Lib.hid (by rw [bfR, if_pos HE.out])
      have HX := Lib.hid (fun W hm => omBefore_any ps n (.agg #[u]) W hg hn hm)
      have hlen : (srtI (bfO ps n)).length ≤ 8 := by rw [srt_length]; exact Nat.le_trans (bfO_len ps n) (omB_len hg).2
      rw [hn] at HN
      rw [HE.out, HL.out]
      clear hg hn HE HL
      generalize srtI (bfO ps n) = xs at *
      have HYES := Lib.hid (fun j => ft_yes (xs := xs) (j := j))
      have HNO := Lib.hid (fun j => ft_no (xs := xs) (j := j))
      have HF : Hid (xs.take xs.length = xs) := Lib.hid List.take_length
      have HLE : Hid (∀ j, ((xs.take j).filter numB).length ≤ xs.length) := Lib.hid (fun j => Nat.le_trans (List.length_filter_le _ _) (by rw [List.length_take]; omega))
      obtain ⟨i0, hi, hi0, hi1, hi2⟩ := info_parts info3
      have HZ : Hid (∀ W B, IntsAt W B (.slice none 0 0) ((xs.take 0).filter numB)) := Lib.hid (fun W B => intsAt_nil _ _)
      have HLN := Lib.hid hlen
      obtain ⟨K, hK⟩ : ∃ K, xs.length = K := ⟨_, rfl⟩
      rw [hK] at HYES HNO HF HLE hlen
      have HKK := Lib.hid hK
      have hK8 : (K : Int) ≤ 8 := by omega
      clear hK
      go_enter Try.func30, Try.ntmps30
      go_wp2_with fail
      refine (HG.out _).mono ?_
      rintro e w1 ⟨rfl, hb1⟩
      have hbo := (HBo.out 29).kept hb1
      have HB1 := Lib.hid ((HB.out (.cells #[u] 29)).trans (hb1.mono (HB.out _).size))
      obtain ⟨p0, p1⟩ := hbo
      clear hb1
      go_wp2_with fail
      refine (HN.out _).mono ?_
      rintro e w2 ⟨rfl, rfl⟩
      go_wp2_with fail
      refine (HX.out _ (HOI.out _ HB1.out)).mono ?_
      rintro e w2 ⟨v2, rfl, hr2, hb2⟩
      have HB2 := Lib.hid (HB1.out.trans (hb2.mono HB1.out.size))
      have hI := IntsIn.rdO (show IntsIn w2 v2 xs from hr2.isIn)
      rw [HKK.out] at hI
      obtain ⟨a2, c2, rfl, hx2⟩ := hI
      have HX2 := Lib.hid hx2
      have hz2 := HB2.out.size
      clear hb2 p0 p1 hr2 hx2
      go_wp2_with fail
      go_loopw [6, 8, 21] (fun out _ i wr => ∃ j : Nat, j ≤ K ∧ i = .int .i64 j ∧ IntsAt wr w2.heap.size out ((xs.take j).filter numB) ∧ Below w2.heap.size w2 wr) (fun _ _ i _ => K - (RowKit.intOf i).toNat)
      case atStart => exact ⟨0, Nat.zero_le _, rfl, HZ.out _ _, Below.refl _ _⟩
      case round =>
        clear HZ
        obtain ⟨j, hj, rfl, hrow, hbel⟩ := hrel
        have HO := Lib.hid hrow
        have HBR := Lib.hid hbel
        have hsz := hbel.size
        by_cases hlt : j < K
        · obtain ⟨g, rfl, hg, q0⟩ := HX2.out j hlt
          have q : wr.cell? ⟨g, j, none⟩ = some (.int .i64 (xs.getD j 0)) := (hbel.cell (p := ⟨g, j, none⟩) hg).trans q0
          have HYJ := Lib.hid (HYES.out j hlt)
          have HNJ := Lib.hid (HNO.out j hlt)
          have hle := HLE.out j
          obtain ⟨x, hx⟩ : ∃ x, xs.getD j 0 = x := ⟨_, rfl⟩
          rw [hx] at q HYJ HNJ
          have hlt2 : (j : Int) < (K : Int) := by omega
          have HM := Lib.hid (fun w => mpIs_any x w)
          clear hx q0 hrow hbel
          cases hb : numB x with
          | false =>
            have HN2 := Lib.hid (HNJ.out hb)
            rw [hb] at HM
            clear HYJ HNJ hb
            go_wp2_with fail
            refine (HM.out _).mono ?_
            rintro e w3 ⟨rfl, rfl⟩
            go_wp2_with fail
            exact ⟨⟨j + 1, hlt, by go_num, by rw [HN2.out]; exact HO.out, HBR.out⟩, by simp [RowKit.intOf]; omega⟩
          | true =>
            have HY2 := Lib.hid (HYJ.out hb)
            rw [hb] at HM
            clear HYJ HNJ hb
            obtain ⟨l, hl⟩ : ∃ l, l = (xs.take j).filter numB := ⟨_, rfl⟩
            rw [← hl] at HO HY2 hle
            clear hl
            have hj2 : l.length + 1 ≤ maxLen := by unfold maxLen; omega
            go_wp2_with fail
            refine (HM.out _).mono ?_
            rintro e w3 ⟨rfl, rfl⟩
            go_wp2_with (at_builtin; refine wpList_append_own _ rfl _ _ 38 rfl w2.heap.size 3 i0 (.int .i64 0) 1 8 Try.underlying38 hi hi0 hi1 hi2 rfl (by decide) _ _ _ rfl (HO.out.alloc _) ⟨wr.heap.size, 0, none⟩ 1 1 [.int .i64 x] rfl rfl ?_ ?_ ?_ ?_ ?_ ?_; rotate_right; intro v' w4 hown hgrow _)
            · have hbg : Below w2.heap.size wr w4 := ((Below.refl w2.heap.size wr).alloc hsz _).grown hgrow (by simp; omega) (fun k e => (HO.out.lt k e).1)
              refine ⟨⟨j + 1, hlt, by go_num, ?_, HBR.out.trans hbg⟩, by simp [RowKit.intOf]; omega⟩
              unfold IntsAt
              rw [HY2.out, List.map_append, List.length_append]
              exact hown
            · exact fun j u hu => new_cell _ _ _ hu
            · simp [Value.oneCell']
            · exact hj2
            · omega
            · simp; omega
        · obtain rfl : j = K := by omega
          have hlt2 : ¬ ((j : Int) < (j : Int)) := by omega
          clear hrow hbel
          go_wp2_with fail
          go_ret2
          have h := HO.out
          rw [HF.out] at h
          exact ⟨_, rfl, h.rowAt.low (by omega), HB2.out.trans (HBR.out.mono (by omega))⟩

set_option maxRecDepth 100000 in
set_option maxHeartbeats 4000000 in
theorem iOtherBefore (ps : List Pt) (n : Int) (v : Value) (w : World) (hl : ps.length ≤ 1048576) (h : OthIn w v ps) :
    Calls Try.prog 31 #[v, .int .i64 n] w (RetRow (bfR ps n) (bfB ps n) w) := by
  obtain ⟨u, rfl, hpi⟩ := h
  have HOI := Lib.hid (fun W (hb : Below w.heap.size w W) => (show OthIn w (.agg #[u]) ps from ⟨u, rfl, hpi⟩).kept hb)
  have HG := Lib.hid (fun X => isOther_any ps (.agg #[u]) (w.alloc X) hl (HOI.out _ (below_new w X)))
  have HB := Lib.hid (fun X => below_new w X)
  have HBo := Lib.hid (fun T => Bo.new w u T)
  have HN := Lib.hid (fun w => isNumber_any n w)
  clear hpi hl
  by_cases hg : omB ps = true
  case neg =>
    have hg' : omB ps = false := by simpa using hg
    have HE : Hid (bfB ps n = false) := Lib.hid (by simp [bfB, hg'])
    have HL := Lib.hid (bfB_not HE.out)
    rw [hg'] at HG
    rw [HE.out, HL.out]
    clear hg hg'
    go_enter Try.func31, Try.ntmps31
    go_wp2_with fail
    refine (HG.out _).mono ?_
    rintro e w1 ⟨rfl, hb1⟩
    have HB1 := Lib.hid ((HB.out _).trans (hb1.mono (HB.out _).size))
    clear hb1
    go_wp2_with fail
    go_ret2
    exact ⟨_, rfl, rowAt_nil _ _, HB1.out⟩
  case pos =>
    rw [hg] at HG
    by_cases hn : numB n = true
    case neg =>
      have hn' : numB n = false := by simpa using hn
      have HE : Hid (bfB ps n = false) := Lib.hid (by simp [bfB, hn'])
      have HL := Lib.hid (bfB_not HE.out)
      rw [hn'] at HN
      rw [HE.out, HL.out]
      clear hg hn hn'
      go_enter Try.func31, Try.ntmps31
      go_wp2_with fail
      refine (HG.out _).mono ?_
      rintro e w1 ⟨rfl, hb1⟩
      have HB1 := Lib.hid ((HB.out _).trans (hb1.mono (HB.out _).size))
      clear hb1
      go_wp2_with fail
      refine (HN.out _).mono ?_
      rintro e w2 ⟨rfl, rfl⟩
      go_wp2_with fail
      go_ret2
      exact ⟨_, rfl, rowAt_nil _ _, HB1.out⟩
    case pos =>
      have HE : Hid (bfB ps n = true) := Lib.hid (by simp [bfB, hg, hn])
      have HL : Hid (bfR ps n = srtI ((bfO ps n).filter numB)) := Lib.hid (by rw [bfR, if_pos HE.out, srt_filter])
      have HX := Lib.hid (fun W hm => beforeO_any ps n (.agg #[u]) W hg hn hm)
      have hlen : (bfO ps n).length ≤ 8 := Nat.le_trans (bfO_len ps n) (omB_len hg).2
      rw [hn] at HN
      rw [HE.out, HL.out]
      clear hg hn HE HL
      generalize bfO ps n = xs at *
      go_enter Try.func31, Try.ntmps31
      go_wp2_with fail
      refine (HG.out _).mono ?_
      rintro e w1 ⟨rfl, hb1⟩
      have hbo := (HBo.out 29).kept hb1
      have HB1 := Lib.hid ((HB.out (.cells #[u] 29)).trans (hb1.mono (HB.out _).size))
      obtain ⟨p0, p1⟩ := hbo
      clear hb1
      go_wp2_with fail
      refine (HN.out _).mono ?_
      rintro e w2 ⟨rfl, rfl⟩
      go_wp2_with fail
      refine (HX.out _ (HOI.out _ HB1.out)).mono ?_
      rintro e w2 ⟨v2, rfl, hr2, hb2⟩
      have HB2 := Lib.hid (HB1.out.trans (hb2.mono HB1.out.size))
      have HS : Hid (Calls Try.prog 69 #[v2, .func (.func 68) #[] #[]] w2 fun e w' => ∃ v', e = .returned v' ∧ IntsAt w' w2.heap.size v' (xs.filter numB) ∧ True ∧ Touch 0 0 w2 w') := Lib.hid (by
        refine sieve_any 68 #[] xs numB (fun _ _ => True) 0 0 v2 w2 w1.heap.size (enters_of Try.func68 (by kernel_rfl) rfl) (by omega) hr2 (Nat.zero_le _) (Nat.zero_le _) (Nat.le_refl _) (fun _ _ _ _ _ _ => trivial) trivial ?_
        rintro j W hj _ hs
        refine (isNumber_any (xs.getD j 0) W).mono ?_
        rintro e W' ⟨rfl, rfl⟩
        exact ⟨rfl, trivial, Touch.refl _ _ _⟩)
      have hz2 := HB2.out.size
      clear hr2 hb2 p0 p1
      go_wp2_with fail
      refine HS.out.mono ?_
      rintro e w3 ⟨v3, rfl, hr3, _, ht3⟩
      have hfl : (xs.filter numB).length ≤ 1048576 := Nat.le_trans (List.length_filter_le _ _) (by omega)
      have HSR := Lib.hid (sortRow_any (xs.filter numB) v3 w2.heap.size w3.heap.size w3 hfl hr3.rowAt)
      have HB3 : Hid (Below w.heap.size w w3) := Lib.hid (HB2.out.trans (ht3.below_new hz2))
      have hz3 := ht3.size
      clear hr3 ht3
      go_wp2_with fail
      refine HSR.out.mono ?_
      rintro e w4 ⟨rfl, ht4, hr4⟩
      have HR4 : Hid (RowAt w4 w.heap.size w4.heap.size v3 (srtI (xs.filter numB))) := Lib.hid (by
        obtain ⟨r1, r2, r3, r4, r5⟩ := hr4
        exact ⟨Nat.le_refl _, r2, r3, r4, r5.wide hz2 r1⟩)
      have HB4 : Hid (Below w.heap.size w w4) := Lib.hid (HB3.out.trans (ht4.below hz2 (by omega)))
      clear hr4 ht4
      go_wp2_with fail
      go_ret2
      exact ⟨_, rfl, HR4.out, HB4.out⟩
end Go.Proofs.Ytbhmplccjaijjaa
