/-
  'LoopResidues' of the model.
-/
import Derived.Test.YtpfclanblcngfaaRrT
import Derived.Test.YtpfclanblcngfaaNvM
namespace Go.Proofs.Ytpfclanblcngfaa
open Go.RowKit
set_option linter.unusedVariables false

/-- Those of the first j residues that are reached again. -/
noncomputable def loL (t p : Int) (K j : Nat) : List Int := (upL 0 j).filter fun x => isL t p K x
theorem loL_yes {t p : Int} {K j : Nat} (h : isL t p K (j : Int) = true) : loL t p K (j + 1) = loL t p K j ++ [(j : Int)] := by
  unfold loL; rw [upL_succ, List.filter_append]; simp [h]
theorem loL_no {t p : Int} {K j : Nat} (h : isL t p K (j : Int) = false) : loL t p K (j + 1) = loL t p K j := by
  unfold loL; rw [upL_succ, List.filter_append]; simp [h]
theorem loL_len (t p : Int) (K j : Nat) : (loL t p K j).length ≤ j := by
  have := List.length_filter_le (fun x => isL t p K x) (upL 0 j)
  rw [upL_length] at this
  exact this
noncomputable def loA (t p M : Int) : List Int := if askN t p M = true then loL t p M.toNat M.toNat else []
theorem loA_no {t p M : Int} (h : askN t p M = false) : loA t p M = [] := by rw [loA, if_neg (by simp [h])]
theorem loA_len (t p M : Int) : (loA t p M).length ≤ 1000000000000 := by
  unfold loA
  split
  · rename_i h
    have hm : M.toNat ≤ 60 := by simp [askN, inB] at h; omega
    exact Nat.le_trans (loL_len _ _ _ _) (Nat.le_trans hm (by decide))
  · simp
theorem nb_range' {t p x : Int} {K : Nat} (hK : 1 ≤ K) : ∀ y ∈ nbL t p K x, 0 ≤ y ∧ y < (K : Int) := fun y hy => by
  rcases mem_nbL.1 hy with rfl | rfl <;> exact nb_range (by omega)
theorem isL_has {t p x : Int} {K : Nat} (hK : 1 ≤ K) : decide (x ∈ rcL t p K (nbL t p K x)) = isL t p K x := by
  unfold isL
  refine decide_eq_decide.2 ?_
  rw [mem_rcL hK (nb_range' hK), rch_pair]
theorem rcL_ne {t p x : Int} {K : Nat} (hK : 1 ≤ K) : rcL t p K (nbL t p K x) ≠ [] := fun e => by
  have h : nb t p K x 0 ∈ rcL t p K (nbL t p K x) := (mem_rcL hK (nb_range' hK) _).2 (.base (mem_nbL.2 (.inl rfl)))
  rw [e] at h
  simp at h

set_option maxRecDepth 100000 in
set_option maxHeartbeats 4000000 in
theorem sLoopResidues (t p M : Int) (w : World) :
    Calls Try.prog 17 #[.agg #[.int .i64 t, .int .i64 p], .int .i64 M] w (RetInts (loA t p M) (askN t p M) w) := by
  have HR := Lib.hid (fun w => rsModulus_any t p M w)
  cases ha : askN t p M
  · rw [show (goodB t p && inB M 1 60) = false from ha] at HR
    have HY := Lib.hid (loA_no ha)
    clear ha
    go_enter Try.func17, Try.ntmps17
    go_wp2_with fail
    refine (HR.out _).mono ?_
    rintro e w1 ⟨rfl, hb1⟩
    obtain ⟨c0, c1, hz, hb⟩ := map_block hb1
    clear hb1
    go_wp2_with fail
    go_ret2
    exact retI_none HY.out rfl hb
  · rw [show (goodB t p && inB M 1 60) = true from ha] at HR
    obtain ⟨hg, hm1, hm2⟩ : goodB t p = true ∧ 1 ≤ M ∧ M ≤ 60 := by simpa [askN, inB] using ha
    obtain ⟨K, rfl⟩ : ∃ K : Nat, M = (K : Int) := ⟨M.toNat, by omega⟩
    have HY : Hid (loA t p K = loL t p K K) := Lib.hid (by rw [loA, if_pos ha]; rfl)
    have HNX := Lib.hid (fun (j : Nat) (h : j < K) w => rsNext_any t p K (j : Int) w hg hm1 hm2 (by omega) (by omega))
    have HRE := Lib.hid (fun (j : Nat) v w (hv : PartV w v (nbL t p K (j : Int))) => rsReached_any t p K v (nbL t p K (j : Int)) w hg (by omega) (by omega) (nb_range' (by omega)) ((nbL_sorted t p K (j : Int)).imp (fun h => by omega)) hv)
    have HZ0 : Hid (∀ W B, IntsAt W B (.slice none 0 0) (loL t p K 0)) := Lib.hid (fun W B => intsAt_nil _ _)
    obtain ⟨j0, hj, hj0, hj1, hj2⟩ := info_parts info3
    clear ha hg
    go_enter Try.func17, Try.ntmps17
    go_wp2_with fail
    refine (HR.out _).mono ?_
    rintro e w1 ⟨rfl, hb1⟩
    obtain ⟨c0, c1, hz, hb⟩ := map_block hb1
    have HB1 := Lib.hid hb
    clear hb1 hb
    go_wp2_with fail
    go_loopw [6, 7] (fun v x wr => ∃ j : Nat, j ≤ K ∧ x = .int .i64 (j : Int) ∧ IntsAt wr (w.heap.size + 1) v (loL t p K j) ∧ wr.cell? ⟨w.heap.size, 0, none⟩ = some (.int .i64 t) ∧ wr.cell? ⟨w.heap.size, 1, none⟩ = some (.int .i64 p) ∧ w.heap.size < wr.heap.size ∧ Below w.heap.size w wr) (fun _ x _ => K - (RowKit.intOf x).toNat)
    case atStart => exact ⟨0, Nat.zero_le _, rfl, HZ0.out _ _, c0, c1, hz, HB1.out⟩
    case round =>
      clear HB1 c0 c1 hz HZ0
      obtain ⟨j, hjK, rfl, hrow, c0, c1, hz, hb⟩ := hrel
      have HO := Lib.hid hrow
      have HB := Lib.hid hb
      clear hrow hb
      by_cases hlt : j < K
      · have hlt2 : (j : Int) < (K : Int) := by omega
        have HNJ := Lib.hid (HNX.out j hlt)
        have HRJ := Lib.hid (HRE.out j)
        have HIS := Lib.hid (isL_has (t := t) (p := p) (x := (j : Int)) (K := K) (by omega))
        have HNE := Lib.hid (rcL_ne (t := t) (p := p) (x := (j : Int)) (K := K) (by omega))
        obtain ⟨hl1, hl2⟩ := nbL_len t p K (j : Int)
        have hlen := loL_len t p K j
        have HRL := Lib.hid (rcL_len t p K (nbL t p K (j : Int)))
        have HLY := Lib.hid (loL_yes (t := t) (p := p) (K := K) (j := j))
        have HLN := Lib.hid (loL_no (t := t) (p := p) (K := K) (j := j))
        obtain ⟨ys, hys⟩ : ∃ ys, nbL t p K (j : Int) = ys := ⟨_, rfl⟩
        rw [hys] at HNJ HRJ HIS HNE HRL hl1
        obtain ⟨zs, hzs⟩ : ∃ zs, rcL t p K ys = zs := ⟨_, rfl⟩
        rw [hzs] at HRJ HIS HNE HRL
        clear hys hzs
        obtain ⟨l, hl⟩ : ∃ l, loL t p K j = l := ⟨_, rfl⟩
        rw [hl] at HO HLY HLN hlen
        have hll : l.length + 1 ≤ maxLen := by unfold maxLen; omega
        have hlb : l.length ≤ 60 := by omega
        clear hl hlen
        cases his : isL t p K (j : Int)
        · rw [his] at HIS
          have HL2 := Lib.hid (HLN.out his)
          clear his
          go_wp2_with fail
          go_region_law (first
            | (go_simp; go_at_call 21; refine (HNJ.out _).mono ?_; rintro e w2 ⟨v2, rfl, hv, hb2⟩; have HPV := Lib.hid (hv.isAt.partV (by omega)); have HB2 := Lib.hid hb2; have d0 : w2.cell? ⟨w.heap.size, 0, none⟩ = some (.int .i64 t) := (by first | exact kept_cell hb2 hz c0 | exact kept_cell hb2 (by simpa using hz) (by simpa using c0)); have d1 : w2.cell? ⟨w.heap.size, 1, none⟩ = some (.int .i64 p) := (by first | exact kept_cell hb2 hz c1 | exact kept_cell hb2 (by simpa using hz) (by simpa using c1)); clear hv hb2)
            | (go_simp; go_at_call 27; refine (HRJ.out _ _ HPV.out).mono ?_; rintro e w3 ⟨v3, rfl, hv3, hb3⟩; have HHAS := Lib.hid (l1Has_up (j : Int) (.inr ⟨HNE.out, hv3⟩) (by have := HRL.out; omega)); have HB3 := Lib.hid hb3; rw [HIS.out] at HHAS; clear hv3 hb3)
            | (go_simp; go_at_call 35; refine HHAS.out.mono ?_; rintro e w' ⟨rfl, rfl⟩))
          all_goals
            have hb4 : Below wr.heap.size wr w3 := by
              first
                | exact HB2.out.trans (HB3.out.mono HB2.out.size)
                | exact ((Below.refl wr.heap.size wr).drew.trans (HB2.out.mono (by simp))).trans (HB3.out.mono (Nat.le_trans (by simp) HB2.out.size))
            have e0 := kept_cell hb4 hz c0
            have e1 := kept_cell hb4 hz c1
            have HO3 := Lib.hid (ownsRow_kept HO.out hb4)
            have HB4 := Lib.hid (HB.out.trans (hb4.mono (Nat.le_of_lt hz)))
            have hz3 := Nat.lt_of_lt_of_le hz hb4.size
            clear hb4 c0 c1
          all_goals
            go_wp2_with fail
            exact ⟨⟨j + 1, hlt, by go_num, by rw [HL2.out]; exact HO3.out, e0, e1, hz3, HB4.out⟩, by simp [RowKit.intOf]; omega⟩
        · rw [his] at HIS
          have HL2 := Lib.hid (HLY.out his)
          clear his
          go_wp2_with fail
          go_region_law (first
            | (go_simp; go_at_call 21; refine (HNJ.out _).mono ?_; rintro e w2 ⟨v2, rfl, hv, hb2⟩; have HPV := Lib.hid (hv.isAt.partV (by omega)); have HB2 := Lib.hid hb2; have d0 : w2.cell? ⟨w.heap.size, 0, none⟩ = some (.int .i64 t) := (by first | exact kept_cell hb2 hz c0 | exact kept_cell hb2 (by simpa using hz) (by simpa using c0)); have d1 : w2.cell? ⟨w.heap.size, 1, none⟩ = some (.int .i64 p) := (by first | exact kept_cell hb2 hz c1 | exact kept_cell hb2 (by simpa using hz) (by simpa using c1)); clear hv hb2)
            | (go_simp; go_at_call 27; refine (HRJ.out _ _ HPV.out).mono ?_; rintro e w3 ⟨v3, rfl, hv3, hb3⟩; have HHAS := Lib.hid (l1Has_up (j : Int) (.inr ⟨HNE.out, hv3⟩) (by have := HRL.out; omega)); have HB3 := Lib.hid hb3; rw [HIS.out] at HHAS; clear hv3 hb3)
            | (go_simp; go_at_call 35; refine HHAS.out.mono ?_; rintro e w' ⟨rfl, rfl⟩))
          all_goals
            have hb4 : Below wr.heap.size wr w3 := by
              first
                | exact HB2.out.trans (HB3.out.mono HB2.out.size)
                | exact ((Below.refl wr.heap.size wr).drew.trans (HB2.out.mono (by simp))).trans (HB3.out.mono (Nat.le_trans (by simp) HB2.out.size))
            have e0 := kept_cell hb4 hz c0
            have e1 := kept_cell hb4 hz c1
            have HO3 := Lib.hid (ownsRow_kept HO.out hb4)
            have HB4 := Lib.hid (HB.out.trans (hb4.mono (Nat.le_of_lt hz)))
            have hz3 := Nat.lt_of_lt_of_le hz hb4.size
            clear hb4 c0 c1
          all_goals
            go_wp2_with (at_builtin; refine wpList_append_own _ rfl _ _ 24 rfl (w.heap.size + 1) 3 j0 (.int .i64 0) 1 8 Try.underlying24 hj hj0 hj1 hj2 rfl (by decide) _ _ _ rfl (HO3.out.alloc _) ⟨w3.heap.size, 0, none⟩ 1 1 [.int .i64 (j : Int)] rfl rfl ?_ ?_ ?_ ?_ ?_ ?_; rotate_right; intro v' w5 hown5 hgrow5 _)
            · have hbg : Below (w.heap.size + 1) w3 w5 := ((Below.refl (w.heap.size + 1) w3).alloc hz3 _).grown hgrow5 (by simp; omega) (fun k e => (HO3.out.lt k e).1)
              refine ⟨⟨j + 1, hlt, by go_num, ?_, (hbg.cell (p := ⟨w.heap.size, 0, none⟩) (Nat.lt_succ_self _)).trans e0, (hbg.cell (p := ⟨w.heap.size, 1, none⟩) (Nat.lt_succ_self _)).trans e1, Nat.lt_of_lt_of_le hz3 hbg.size, HB4.out.trans (hbg.mono (Nat.le_succ _))⟩, by simp [RowKit.intOf]; omega⟩
              unfold IntsAt
              rw [HL2.out, List.map_append, List.length_append]
              exact hown5
            · exact fun j u hu => new_cell _ _ _ hu
            · simp [Value.oneCell']
            · exact hll
            · omega
            · simp; omega
      · have HJ : Hid (j = K) := Lib.hid (by omega)
        have hlt2 : ¬ ((j : Int) < (K : Int)) := by omega
        clear hlt hjK c0 c1
        go_wp2_with fail
        go_ret2
        have h := HO.out
        rw [HJ.out, ← HY.out] at h
        exact ⟨_, rfl, ownsRow_base h (Nat.le_succ _), HB.out⟩
end Go.Proofs.Ytpfclanblcngfaa
