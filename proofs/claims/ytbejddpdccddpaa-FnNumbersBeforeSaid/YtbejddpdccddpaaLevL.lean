/-
  'IsInLevel' of the program; 'LevelSizes' of both.
-/
import Derived.Test.YtbejddpdccddpaaLevK
import Derived.Test.YtbejddpdccddpaaCpF
import Derived.OwnWalk
namespace Go.Proofs.Ytbejddpdccddpaa
open Go.RowKit Go.Maps
set_option linter.unusedVariables false

/-- How many numbers the levels have. -/
def szL (t p r : Int) (K : Nat) : List Int := (lvA false t p r K).map fun l => (l.length : Int)
def szX (t p r k : Int) : List Int := if lvB false t p r k = true then szL t p r k.toNat else []
theorem szL_length (t p r : Int) (K : Nat) : (szL t p r K).length = K + 1 := by rw [szL, List.length_map, lvA_length]
theorem szX_len (t p r k : Int) : (szX t p r k).length ≤ 1000000000000 := by
  unfold szX
  split
  · rename_i h
    cases ho : lvO false t p r k with
    | none => rw [lvB, ho] at h; cases h
    | some xs =>
      obtain ⟨_, _, _, K, rfl, hK, _⟩ := lvO_some ho
      rw [szL_length]; omega
  · simp
theorem szL_at {t p r : Int} {j K : Nat} {ys : List Int} (hj : j ≤ K) (h : levL false t p r j = some ys) : (szL t p r K).getD j 0 = (ys.length : Int) := by
  rw [szL, List.getD_eq_getElem?_getD, List.getElem?_map, lvA, List.getElem?_map, List.getElem?_range (by omega)]
  simp only [Option.map_some, Option.getD_some]
  rw [h]
  rfl

set_option maxRecDepth 100000 in
set_option maxHeartbeats 4000000 in
theorem iLevelSizes (t p r k : Int) (w : World) :
    Calls Try.prog 14 #[.agg #[.int .i64 t, .int .i64 p], .int .i64 r, .int .i64 k] w (RetInts (szX t p r k) (lvB false t p r k) w) := by
  obtain ⟨i0, hi, hi0, hi1, hi2⟩ := info_parts info3
  have HL := Lib.hid (fun w => levelsOf_any false rfl t p r k w)
  rw [show bfF false = 34 from rfl] at HL
  go_enter Try.func14, Try.ntmps14
  go_wp2_with fail
  refine (HL.out _).mono ?_
  rintro e w1 ⟨hb1, (⟨K, xs, v, rfl, ho, hxs, rfl, hlev⟩ | ⟨ho, rfl⟩)⟩
  · obtain ⟨c0, c1, hz, hb⟩ := map_block hb1
    obtain ⟨ha, hg, hr, K', hKK, hK20, _⟩ := lvO_some ho
    obtain rfl : K = K' := by omega
    have HB := Lib.hid hb
    have HBB : Hid (lvB false t p r K = true) := Lib.hid (by rw [lvB, ho]; rfl)
    have HX : Hid (szX t p r K = szL t p r K) := Lib.hid (by rw [szX, if_pos HBB.out, Int.toNat_natCast])
    have HXS := Lib.hid hxs
    have HG := Lib.hid hg
    have HSZ := Lib.hid (szL_length t p r K)
    have HAT := Lib.hid (fun j ys (hj : j ≤ K) (h : levL false t p r j = some ys) => szL_at (K := K) hj h)
    have HF := Lib.hid (cpF_full (szL t p r K))
    have HS := Lib.hid (fun j => cpF_set (szL t p r K) j)
    have HZ := Lib.hid (cpF_zero (szL t p r K))
    have HN := Lib.hid (cpF_length (szL t p r K))
    rw [HSZ.out] at HF HZ HN
    have HLEV := Lib.hid hlev
    obtain ⟨bs, hrow, hbl, hbs⟩ := hlev
    rw [lvA_length] at hrow
    obtain ⟨g, cap, rfl, hgB, hgl, hcap, hcm, _⟩ := row_cells hrow (by omega)
    have hcap2 : (K : Int) + 1 ≤ (cap : Int) := by omega
    have hcm2 : (cap : Int) ≤ 9223372036854775807 := by unfold maxLen at hcm; omega
    have hK2 : (K : Int) ≤ 20 := by omega
    obtain ⟨wo, rfl⟩ : ∃ wo : World, wo = w1 := ⟨_, rfl⟩
    clear hb1 hb ho hxs hrow hbl hbs hcm ha hg hr hKK c0 c1 HL
    go_wp2_with (at_make; refine wpList_make_full _ rfl _ _ 28 rfl wo.heap.size 3 i0 (.int .i64 0) 1 Try.underlying28 hi hi0 hi1 .i64 .i64 _ _ (K + 1) rfl rfl ?c0 ?c1 ?c2 ?c3 ?c4 ?_; rotate_right; intro w3 hown3 hgrow3)
    case c0 => simp
    case c1 => simp
    case c2 => rw [hi2]; omega
    case c3 => unfold maxLen; omega
    case c4 => exact Nat.le_refl _
    have HW3 : Hid (Below wo.heap.size wo w3) := Lib.hid ((Below.refl _ wo).grown hgrow3 (Nat.le_refl _) (fun k e => by simp at e))
    have HO3 : Hid (w3.ownsRow wo.heap.size 3 1 (.slice (some ⟨wo.heap.size, 0, none⟩) (K + 1) (K + 1)) (K + 1) ((cpF (szL t p r K) 0).map (Value.int .i64))) := Lib.hid (by
      rw [HZ.out, List.map_replicate]
      have := hown3
      rw [show (Value.int .i64 0).cells = #[Value.int .i64 0] from rfl, Nat.mul_one, toList_madeCells_one] at this
      simpa using this)
    clear hown3 hgrow3
    go_loopw [25] (fun i wr => ∃ j : Nat, j ≤ K + 1 ∧ i = .int .i64 j ∧ wr.ownsRow wo.heap.size 3 1 (.slice (some ⟨wo.heap.size, 0, none⟩) (K + 1) (K + 1)) (K + 1) ((cpF (szL t p r K) j).map (Value.int .i64)) ∧ Below wo.heap.size wo wr) (fun i _ => K + 1 - (RowKit.intOf i).toNat)
    case atStart => exact ⟨0, by omega, rfl, HO3.out, HW3.out⟩
    case round =>
      obtain ⟨j, hj, rfl, hown, hbr⟩ := hrel
      have HO := Lib.hid hown
      have HBR := Lib.hid hbr
      by_cases hlt : j < K + 1
      · have hjK : (j : Int) < (K : Int) + 1 := by omega
        obtain ⟨ys, hys⟩ := levL_lower (j := j) (by omega) HXS.out
        obtain ⟨g2, cap2, b, hv, _, hg2, _, _, q, hset⟩ := (HLEV.out.kept hbr).at (k := j) (by rw [lvA_length]; exact hlt)
        obtain rfl : g = g2 := by injection hv with h1; injection h1 with h2; injection h2
        rw [lvA_at _ _ _ _ (by omega), hys, Option.getD_some] at hset
        obtain ⟨nD, D, hownD, _, hD, _⟩ := hset
        have hsD := (set_size hownD hD (nodup_lt (levL_lt HG.out hys))).1
        have HOD := Lib.hid hownD
        have hay := HAT.out j ys (by omega) hys
        obtain ⟨u, qc⟩ : ∃ u, wr.cell? ⟨wo.heap.size, j, none⟩ = some (.int .i64 u) := by
          refine ⟨(cpF (szL t p r K) j).getD j 0, ?_⟩
          rw [World.ownsRow.cellAt hown j (by omega), List.getElem?_map, List.getElem?_eq_getElem (by rw [HN.out]; exact hlt)]
          simp [List.getD, HN.out, hlt]
        have qf : wr.frozen? ⟨wo.heap.size, j, none⟩ = false := World.ownsRow.frozenAt hown j
        have HSJ := Lib.hid (HS.out j)
        rw [hay] at HSJ
        have hw1 : wo.heap.size ≤ wo.heap.size := Nat.le_refl _
        clear hown hbr hys hv hownD hD hay
        go_wp2_with (first
          | (at_len; refine wpList_len_own _ rfl _ 55 rfl 3 4 Try.underlying55 (plainElem (H := Unit) Try.prog 4) b nD D rfl HOD.out ?_; rw [hsD]))
        have hst := World.ownsRow.stored HO.out j (.int .i64 (ys.length : Int))
        rw [HSJ.out] at hst
        exact ⟨⟨j + 1, hlt, by go_num, hst.1, HBR.out.setCell (p := ⟨wo.heap.size, j, none⟩) hw1 _⟩, by simp [RowKit.intOf]; omega⟩
      · have HJ : Hid (j = K + 1) := Lib.hid (by omega)
        have hjj : ¬ ((j : Int) < (K : Int) + 1) := by omega
        clear hown hbr hj hlt
        go_wp2_with fail
        go_ret2
        rw [HBB.out, HX.out]
        refine ⟨_, rfl, ?_, HB.out.trans (HBR.out.mono (Nat.le_of_lt hz))⟩
        have h2 := HO.out
        rw [HJ.out, HF.out] at h2
        unfold IntsAt
        rw [HSZ.out]
        exact ownsRow_base h2 (Nat.le_of_lt hz)
  · obtain ⟨c0, c1, hz, hb⟩ := map_block hb1
    have HBB : Hid (lvB false t p r k = false) := Lib.hid (by rw [lvB, ho]; rfl)
    have HX : Hid (szX t p r k = []) := Lib.hid (by rw [szX, if_neg (by rw [HBB.out]; simp)])
    have HB := Lib.hid hb
    clear hb1 hb ho HL
    go_wp2_with (at_make; refine wpList_make_full _ rfl _ _ 28 rfl w1.heap.size 3 i0 (.int .i64 0) 1 Try.underlying28 hi hi0 hi1 .i64 .i64 _ _ 0 rfl rfl ?c0 ?c1 ?c2 ?c3 ?c4 ?_; rotate_right; intro w3 hown3 hgrow3)
    case c0 => simp
    case c1 => simp
    case c2 => omega
    case c3 => unfold maxLen; omega
    case c4 => exact Nat.le_refl _
    have HW3 : Hid (Below w1.heap.size w1 w3) := Lib.hid ((Below.refl _ w1).grown hgrow3 (Nat.le_refl _) (fun k e => by simp at e))
    have HO3 : Hid (IntsAt w3 w1.heap.size (.slice (some ⟨w1.heap.size, 0, none⟩) 0 0) []) := Lib.hid (by
      have := hown3
      rw [show (Value.int .i64 0).cells = #[Value.int .i64 0] from rfl, Nat.mul_one, toList_madeCells_one] at this
      simpa [IntsAt] using this)
    clear hown3 hgrow3
    refine wp_loop_rounds 1 ?_
    rw [rounds_succ]
    go_wp2
    go_ret2
    rw [HBB.out, HX.out]
    exact ⟨_, rfl, ownsRow_base HO3.out (Nat.le_of_lt hz), HB.out.trans (HW3.out.mono (Nat.le_of_lt hz))⟩

set_option maxRecDepth 100000 in
set_option maxHeartbeats 4000000 in
theorem sLevelSizes (t p r k : Int) (w : World) :
    Calls Try.prog 15 #[.agg #[.int .i64 t, .int .i64 p], .int .i64 r, .int .i64 k] w (RetInts (szX t p r k) (lvB false t p r k) w) := by
  obtain ⟨i0, hi, hi0, hi1, hi2⟩ := info_parts info3
  have HA := Lib.hid (fun w => trAsked_any t p r k w)
  cases ha : askT t p r k
  · have HBB : Hid (lvB false t p r k = false) := Lib.hid (by rw [lvB, lvO_no ha]; rfl)
    have HX : Hid (szX t p r k = []) := Lib.hid (by rw [szX, if_neg (by rw [HBB.out]; simp)])
    rw [ha] at HA
    clear ha hi hi0 hi1 hi2
    go_enter Try.func15, Try.ntmps15
    go_wp2_with fail
    refine (HA.out _).mono ?_
    rintro e w1 ⟨rfl, hb1⟩
    obtain ⟨c0, c1, hz, hb⟩ := map_block hb1
    clear hb1
    go_wp2_with fail
    go_ret2
    exact retI_none' HX.out HBB.out hb
  · obtain ⟨hg, hr, _, K, rfl, hK⟩ := askT_parts ha
    have HL := Lib.hid (fun w => trLevels_any false t p r K w hg hr hK)
    have HO := Lib.hid (lvO_yes (short := false) ha)
    rw [ha] at HA
    have hK2 : (K : Int) ≤ 20 := by omega
    clear ha hg hr
    go_enter Try.func15, Try.ntmps15
    go_wp2_with fail
    refine (HA.out _).mono ?_
    rintro e w1 ⟨rfl, hb1⟩
    obtain ⟨c0, c1, hz, hb⟩ := map_block hb1
    have HB1 := Lib.hid hb
    clear hb1 hb
    go_wp2_with fail
    refine (HL.out _).mono ?_
    rintro e w2 ⟨hb2, (⟨xs, v, hxs, rfl, hlev⟩ | ⟨hxs, rfl⟩)⟩
    · have HBB : Hid (lvB false t p r K = true) := Lib.hid (by rw [lvB, HO.out, hxs]; rfl)
      have HX : Hid (szX t p r K = szL t p r K) := Lib.hid (by rw [szX, if_pos HBB.out, Int.toNat_natCast])
      have HXS := Lib.hid hxs
      have HSZ := Lib.hid (szL_length t p r K)
      have HAT := Lib.hid (fun j ys (hj : j ≤ K) (h : levL false t p r j = some ys) => szL_at (K := K) hj h)
      have HLEV := Lib.hid hlev
      have HB2 := Lib.hid (HB1.out.trans (hb2.mono (Nat.le_of_lt hz)))
      have hz2 := Nat.lt_of_lt_of_le hz hb2.size
      obtain ⟨vs, hrow, hbl, hbs⟩ := hlev
      rw [lvA_length] at hrow
      obtain ⟨g, cap, rfl, hgB, hgl, hcap, hcm, _⟩ := row_cells hrow (by omega)
      have hcap2 : (K : Int) + 1 ≤ (cap : Int) := by omega
      have hcm2 : (cap : Int) ≤ 9223372036854775807 := by unfold maxLen at hcm; omega
      obtain ⟨wo, rfl⟩ : ∃ wo : World, wo = w2 := ⟨_, rfl⟩
      clear hb2 hxs hrow hbl hbs hcm c0 c1 HL
      go_wp2_with fail
      go_loopw [10, 29] (fun c i wr => ∃ j : Nat, j ≤ K + 1 ∧ i = .int .i64 j ∧ IntsAt wr wo.heap.size c ((szL t p r K).take j) ∧ Below wo.heap.size wo wr) (fun _ i _ => K + 1 - (RowKit.intOf i).toNat)
      case atStart => exact ⟨0, by omega, rfl, by rw [List.take_zero]; exact intsAt_nil _ _, Below.refl _ _⟩
      case round =>
        obtain ⟨j, hj, rfl, hown, hbr⟩ := hrel
        have HO1 := Lib.hid hown
        have HBR := Lib.hid hbr
        have hsS := hbr.size
        by_cases hlt : j < K + 1
        · have hjK : (j : Int) < (K : Int) + 1 := by omega
          obtain ⟨ys, hys⟩ := levL_lower (j := j) (by omega) HXS.out
          obtain ⟨g2, cap2, u, hv, _, hg2, _, _, q, hui⟩ := (HLEV.out.kept hbr).at (k := j) (by rw [lvA_length]; exact hlt)
          obtain rfl : g = g2 := by injection hv with h1; injection h1 with h2; injection h2
          rw [lvA_at _ _ _ _ (by omega), hys, Option.getD_some] at hui
          obtain ⟨ua, uc, rfl⟩ := hui.form
          have HTK : Hid ((szL t p r K).take (j + 1) = (szL t p r K).take j ++ [(ys.length : Int)]) := Lib.hid (by
            have h1 := HAT.out j ys (by omega) hys
            have h2 : j < (szL t p r K).length := by rw [HSZ.out]; exact hlt
            rw [List.take_add_one, List.getElem?_eq_getElem h2]
            rw [List.getD_eq_getElem?_getD, List.getElem?_eq_getElem h2] at h1
            rw [← h1]; rfl)
          have htl : ((szL t p r K).take j).length ≤ 21 := by rw [List.length_take, HSZ.out]; omega
          obtain ⟨zs, hzs⟩ : ∃ zs, (szL t p r K).take j = zs := ⟨_, rfl⟩
          rw [hzs] at HO1 HTK htl
          have hj3 : zs.length + 1 ≤ maxLen := by unfold maxLen; omega
          clear hown hbr hys hv hui hzs
          go_wp2_with (at_builtin; refine wpList_append_own _ rfl _ _ 28 rfl wo.heap.size 3 i0 (.int .i64 0) 1 8 Try.underlying28 hi hi0 hi1 hi2 rfl (by decide) _ _ _ rfl (HO1.out.alloc _) ⟨wr.heap.size, 0, none⟩ 1 1 [.int .i64 (ys.length : Int)] rfl rfl (fun j u hu => new_cell _ _ _ hu) (by simp [Value.oneCell']) hj3 (by omega) (by simp; omega) ?_; intro v3 w3 hown3 hgrow3 _)
          refine ⟨⟨j + 1, hlt, by go_num, ?_, (HBR.out.alloc hsS _).grown hgrow3 (by simp; omega) (fun k e => (World.ownsRow.lt HO1.out k e).1)⟩, by simp [RowKit.intOf]; omega⟩
          rw [HTK.out]
          unfold IntsAt
          rw [List.length_append, List.map_append]
          exact hown3
        · have HJ : Hid (j = K + 1) := Lib.hid (by omega)
          have hjj : ¬ ((j : Int) < (K : Int) + 1) := by omega
          clear hown hbr hj hlt
          go_wp2_with fail
          go_ret2
          rw [HBB.out, HX.out]
          refine ⟨_, rfl, ?_, HB2.out.trans (HBR.out.mono (Nat.le_of_lt hz2))⟩
          have h2 := HO1.out
          rw [HJ.out, List.take_of_length_le (by rw [HSZ.out]; exact Nat.le_refl _)] at h2
          exact ownsRow_base h2 (Nat.le_of_lt hz2)
    · have HBB : Hid (lvB false t p r K = false) := Lib.hid (by rw [lvB, HO.out, hxs]; rfl)
      have HX : Hid (szX t p r K = []) := Lib.hid (by rw [szX, if_neg (by rw [HBB.out]; simp)])
      have HB2 := Lib.hid (HB1.out.trans (hb2.mono (Nat.le_of_lt hz)))
      clear hxs hb2 c0 c1
      go_wp2_with fail
      go_ret2
      exact retI_none' HX.out HBB.out HB2.out
end Go.Proofs.Ytbejddpdccddpaa
