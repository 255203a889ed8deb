/-
  'NumbersWithWord' of the program, and of the model where nothing is found.
-/
import Derived.Test.YteekglabcimfpaaDoorNums
namespace Go.Proofs.YteekglabcimfpaaDoor
open Go.RowKit
set_option linter.unusedVariables false

theorem nw_no {t p : Int} {s : ByteArray} {from' k : Int} (h : askNW t p s from' k = false) : nwB t p s from' k = false ∧ nwL t p s from' k = [] := by
  have hb : nwB t p s from' k = false := by rw [nwB, h]; rfl
  exact ⟨hb, by rw [nwL, if_neg (by simp [hb])]⟩

set_option maxHeartbeats 1000000 in
theorem sNums_no (t p : Int) (s : ByteArray) (from' k : Int) (w : World) (h : askNW t p s from' k = false) :
    Calls Tryd.prog 13 #[.agg #[.int .i64 t, .int .i64 p], .string s, .int .i64 from', .int .i64 k] w (RetInts (nwL t p s from' k) (nwB t p s from' k) w) := by
  have HA := Lib.hid (fun w => woAsked_any t p s w)
  have HI := Lib.hid (fun w => mpIs_any from' w)
  have HC := Lib.hid (fun w => l1In_any k 0 50 w)
  have HN := Lib.hid (nw_no h)
  cases hc : askW t p s <;> cases hn : numB from' <;> cases hk : inB k 0 50
  all_goals first
    | (exfalso; rw [askNW, hc, hn, hk] at h; cases h; done)
    | (rw [hc] at HA; rw [hn] at HI; rw [hk] at HC
       clear h hc hn hk
       generalize nwL t p s from' k = xs at HN ⊢
       generalize nwB t p s from' k = ok at HN ⊢
       go_enter Tryd.func13, Tryd.ntmps13
       go_wp2_with fail
       refine (HA.out _).mono ?_
       rintro e w1 ⟨rfl, hb1⟩
       obtain ⟨c0, c1, hz, hb⟩ := map_block hb1
       clear hb1
       go_wp2_with (first | (go_at_call 32; refine (HI.out _).mono ?_; rintro e w' ⟨rfl, rfl⟩) | (go_at_call 33; refine (HC.out _).mono ?_; rintro e w' ⟨rfl, rfl⟩))
       go_ret2
       exact ret_none HN.out.2 HN.out.1 hb)
theorem sNums (t p : Int) (s : ByteArray) (from' k : Int) (w : World) :
    Calls Tryd.prog 13 #[.agg #[.int .i64 t, .int .i64 p], .string s, .int .i64 from', .int .i64 k] w (RetInts (nwL t p s from' k) (nwB t p s from' k) w) := by
  cases h : askNW t p s from' k
  · exact sNums_no t p s from' k w h
  · have : 0 ≤ k := by simp only [askNW, inB, Bool.and_eq_true, decide_eq_true_eq] at h; omega
    obtain ⟨K, rfl⟩ : ∃ K : Nat, k = K := ⟨k.toNat, by omega⟩
    exact sNums_yes t p s from' K w h

set_option maxHeartbeats 2000000 in
theorem iNums_no (t p : Int) (s : ByteArray) (from' k : Int) (w : World) (htab : Tab w) (h : askNW t p s from' k = false) :
    Calls Tryd.prog 14 #[.agg #[.int .i64 t, .int .i64 p], .string s, .int .i64 from', .int .i64 k] w (RetInts (nwL t p s from' k) (nwB t p s from' k) w) := by
  have HK := Lib.hid (fun w (h : Tab w) => kinOf_any t p s w h)
  have HT := Lib.hid htab
  have HI := Lib.hid (fun w => isNumber_any from' w)
  have HN := Lib.hid (nw_no h)
  clear htab
  generalize nwL t p s from' k = xs at HN ⊢
  generalize nwB t p s from' k = ok at HN ⊢
  generalize knW t p s = x at HK
  obtain ⟨r, a, b⟩ := x
  cases hc : askW t p s <;> cases hn : numB from' <;> cases hk : inB k 0 50
  all_goals first
    | (exfalso; rw [askNW, hc, hn, hk] at h; cases h; done)
    | (rw [hc] at HK; rw [hn] at HI
       by_cases k0 : 0 ≤ k <;> by_cases k1 : k ≤ 50
       all_goals first
         | (exfalso; simp [inB, k0, k1] at hk; done)
         | (have hd0 : decide (k < 0) = !decide (0 ≤ k) := by rw [Bool.eq_iff_iff]; simp
            have hd1 : decide (50 < k) = !decide (k ≤ 50) := by rw [Bool.eq_iff_iff]; simp
            rw [show decide (0 ≤ k) = _ from by first | exact decide_eq_true k0 | exact decide_eq_false k0] at hd0
            rw [show decide (k ≤ 50) = _ from by first | exact decide_eq_true k1 | exact decide_eq_false k1] at hd1
            clear h hc hn hk k0 k1
            go_enter Tryd.func14, Tryd.ntmps14
            go_wp2_with fail
            refine (HK.out _ (tab_below HT.out ((Below.refl _ w).alloc (Nat.le_refl _) _) (Nat.le_refl _))).mono ?_
            rintro e w1 ⟨rfl, hb1⟩
            obtain ⟨hb, hz⟩ := kin_block hb1
            clear hb1
            go_wp2_with (go_at_call 35; refine (HI.out _).mono ?_; rintro e w' ⟨rfl, rfl⟩)
            go_ret2
            exact ret_none HN.out.2 HN.out.1 (hb.alloc (Nat.le_of_lt hz) _)))

set_option maxRecDepth 100000 in
set_option maxHeartbeats 4000000 in
theorem iNums_yes (t p : Int) (s : ByteArray) (from' : Int) (K : Nat) (w : World) (htab : Tab w) (h : askNW t p s from' K = true) :
    Calls Tryd.prog 14 #[.agg #[.int .i64 t, .int .i64 p], .string s, .int .i64 from', .int .i64 (K : Int)] w (RetInts (nwL t p s from' K) (nwB t p s from' K) w) := by
  have HK := Lib.hid (fun w (h : Tab w) => kinOf_any t p s w h)
  have HI := Lib.hid (fun w => isNumber_any from' w)
  have HT := Lib.hid htab
  have hx := h
  simp only [askNW, Bool.and_eq_true] at hx
  obtain ⟨hc, hn, hk⟩ := hx
  have hK : K ≤ 50 := by simp [inB] at hk; omega
  have hK1 : (K : Int) ≤ 50 := by omega
  obtain ⟨hg, hw⟩ := askW_iff.1 hc
  have hz15 := (wordB_iff.1 hw).1
  have hz1 : (s.size : Int) ≤ 15 := by omega
  have hz2' : (s.size : Int) < 16 := by omega
  have hz3 : s.size < 16 := by omega
  obtain ⟨pw1, pw0⟩ := pow2_le hz15
  obtain ⟨n1, n2⟩ := numB_iff.1 hn
  have sm := knW_small hc
  have HB0 : Hid (nwB t p s from' K = nsB (nwA t p s from') (2 ^ s.size) K) := Lib.hid (by rw [nwB, h]; rfl)
  have HL0 : Hid (nwB t p s from' K = true → nwL t p s from' K = nsL (nwA t p s from') (2 ^ s.size) K) := Lib.hid (fun h => by rw [nwL, if_pos h]; rfl)
  have HL1 : Hid (nwB t p s from' K = false → nwL t p s from' K = []) := Lib.hid (fun h => by rw [nwL, if_neg (by simp [h])])
  generalize nwB t p s from' K = ok at HB0 HL0 HL1 ⊢
  generalize nwL t p s from' K = xs at HL0 HL1 ⊢
  have hA : nwA t p s from' = from' + ((knW t p s).1 - from') % 2 ^ s.size := rfl
  generalize nwA t p s from' = A at HB0 HL0 hA
  generalize knW t p s = x at HK hA sm
  obtain ⟨r, a, b⟩ := x
  obtain ⟨_, _, _, _, r0, r1, _⟩ := sm
  dsimp only at hA r0 r1
  have e0 := Int.emod_nonneg (r - from') (show (2 : Int) ^ s.size ≠ 0 by omega)
  have e1 := Int.emod_lt_of_pos (r - from') pw0
  have HR := Lib.hid (fun w h => residueOf_any (r - from') s.size hz15 w h)
  generalize (r - from') % 2 ^ s.size = m at hA e0 e1 HR
  subst hA
  rw [hc] at HK
  rw [hn] at HI
  clear h hc hn hk hg hw htab
  obtain ⟨i0, hi, hi0, hi1, hi2⟩ := info_parts info3n
  have hd0 : decide ((K : Int) < 0) = false := by simp
  have hd1 : decide (50 < (K : Int)) = false := by simp; omega
  go_enter Tryd.func14, Tryd.ntmps14
  go_wp2_with fail
  refine (HK.out _ (tab_below HT.out ((Below.refl _ w).alloc (Nat.le_refl _) _) (Nat.le_refl _))).mono ?_
  rintro e w1 ⟨rfl, hb1⟩
  obtain ⟨hb, hz⟩ := kin_block hb1
  clear hb1
  have HBA := Lib.hid (hb.alloc (Nat.le_of_lt hz) (.cells #[.int .i64 r, .int .i64 a, .int .i64 b] 51))
  have hzb := hb.size
  clear hb
  go_wp2_with (first
    | (go_at_call 35; refine (HI.out _).mono ?_; rintro e w' ⟨rfl, rfl⟩)
    | (at_make; refine wpList_make_full _ rfl _ _ 29 rfl w.heap.size 3 i0 (.int .i64 0) 1 Tryd.underlying29 hi hi0 hi1 .i64 .i64 K K K rfl rfl rfl rfl ?c1 ?c2 ?c3 ?_; rotate_right; intro w3 hown3 hgrow3; have hb3 : Below (w1.heap.size + 1) (w1.alloc (.cells #[.int .i64 r, .int .i64 a, .int .i64 b] 51)) w3 := ⟨hgrow3.os, hgrow3.tape, hgrow3.output, hgrow3.size, fun k hk => hgrow3.block k (by simpa using hk) (by simp)⟩; have k0 : w3.cell? ⟨w1.heap.size, 0, none⟩ = some (.int .i64 r) := (hb3.cell (p := ⟨w1.heap.size, 0, none⟩) (Nat.lt_succ_self _)).trans (by go_simp))
    | (go_at_call 36; refine (HR.out _ (tab_below HT.out (HBA.out.trans (hb3.mono (by omega))) (Nat.le_refl _))).mono ?_; rintro e w' ⟨rfl, rfl⟩))
  case c1 => rw [hi2]; omega
  case c2 => unfold maxLen; omega
  case c3 => simp; omega
  have HW3 : Hid (Below w.heap.size w w3) := Lib.hid (HBA.out.trans (hb3.mono (by omega)))
  have hl3 := (World.ownsRow.lt hown3 _ rfl).2
  have hsz3 := hb3.size
  have HO3 : Hid (w3.ownsRow w.heap.size 3 1 (.slice (some ⟨w1.heap.size + 1, 0, none⟩) K K) K ((nsF (from' + m) (2 ^ s.size) 0 K).map (Value.int .i64))) := Lib.hid (by
    rw [nsF_zero, List.map_replicate]
    have := hown3
    rw [show (Value.int .i64 0).cells = #[Value.int .i64 0] from rfl, Nat.mul_one, toList_madeCells_one] at this
    simpa using this)
  clear hown3 hgrow3 hb3
  obtain ⟨A, hA⟩ : ∃ A, A = from' + m := ⟨_, rfl⟩
  rw [← hA] at HB0 HL0 HO3
  have a0 : from' ≤ A := by omega
  have a1 : A ≤ from' + 32768 := by omega
  clear k0
  go_loopw [13, 49] (fun y x wr => ∃ j : Nat, j ≤ K ∧ x = .int .i64 j ∧ y = .int .i64 (nsA A (2 ^ s.size) j) ∧ nsB A (2 ^ s.size) j = true ∧ -2000000000000 ≤ nsA A (2 ^ s.size) j ∧ nsA A (2 ^ s.size) j ≤ 2000000000000 ∧ wr.ownsRow w.heap.size 3 1 (.slice (some ⟨w1.heap.size + 1, 0, none⟩) K K) K ((nsF A (2 ^ s.size) j K).map (Value.int .i64)) ∧ Below w.heap.size w wr) (fun _ x _ => K - (intOf x).toNat)
  case atStart => exact ⟨0, by omega, rfl, by rw [nsA_zero, hA], rfl, by rw [nsA_zero]; omega, by rw [nsA_zero]; omega, HO3.out, HW3.out⟩
  case round =>
    obtain ⟨j, hj, rfl, rfl, hall, v0, v1, hown, hbr⟩ := hrel
    have HALL := Lib.hid hall
    have HO := Lib.hid hown
    have HBR := Lib.hid hbr
    clear hall hown hbr
    by_cases hlt : j < K
    · have hjK : (j : Int) < (K : Int) := by omega
      have HS := Lib.hid (nsA_succ A (2 ^ s.size) j)
      have HFS := Lib.hid (nsF_set A (2 ^ s.size) j K)
      have HBS := Lib.hid (nsB_succ A (2 ^ s.size) j)
      have HNO := Lib.hid (fun h => nsB_no (a := A) (d := 2 ^ s.size) hlt h)
      have HI2 := Lib.hid (fun w => isNumber_any (nsA A (2 ^ s.size) j) w)
      obtain ⟨v, hv⟩ : ∃ v, v = nsA A (2 ^ s.size) j := ⟨_, rfl⟩
      rw [← hv] at v0 v1 HS HFS HBS HNO HI2 ⊢
      clear hv
      cases hnv : numB v
      · rw [hnv] at HI2
        have HOK : Hid (ok = false) := Lib.hid (by rw [HB0.out]; exact HNO.out hnv)
        have HXS := Lib.hid (HL1.out HOK.out)
        clear hnv
        go_wp2_with (go_at_call 35; refine (HI2.out _).mono ?_; rintro e w' ⟨rfl, rfl⟩)
        go_ret2
        exact ret_none HXS.out HOK.out HBR.out
      · obtain ⟨v2, v3⟩ := numB_iff.1 hnv
        have HNV := Lib.hid hnv
        rw [hnv] at HI2
        have qc : wr.cell? ⟨w1.heap.size + 1, j, none⟩ = some (.int .i64 0) := by
          rw [World.ownsRow.cellAt HO.out j (by omega), List.getElem?_map]
          simp [nsF, hlt]
        have qf : wr.frozen? ⟨w1.heap.size + 1, j, none⟩ = false := World.ownsRow.frozenAt HO.out j
        have qt := tab_at (tab_below HT.out HBR.out (Nat.le_refl _)) hz15
        have hw1 : w.heap.size ≤ w1.heap.size + 1 := by omega
        clear hnv
        go_wp2_with (go_at_call 35; refine (HI2.out _).mono ?_; rintro e w' ⟨rfl, rfl⟩)
        have hst := World.ownsRow.stored HO.out j (.int .i64 v)
        rw [HFS.out] at hst
        refine ⟨⟨j + 1, hlt, by go_num, by rw [HS.out], by rw [HBS.out, HALL.out, HNV.out]; rfl, by rw [HS.out]; omega, by rw [HS.out]; omega, hst.1, HBR.out.setCell (p := ⟨w1.heap.size + 1, j, none⟩) hw1 _⟩, by simp [intOf]; omega⟩
    · obtain rfl : j = K := by omega
      have hjj : ¬ ((j : Int) < (j : Int)) := by omega
      have HOK : Hid (ok = true) := Lib.hid (by rw [HB0.out]; exact HALL.out)
      have HXS := Lib.hid (HL0.out HOK.out)
      go_wp2_with fail
      go_ret2
      refine ret_some ?_ HOK.out HBR.out
      rw [HXS.out]
      unfold IntsAt
      rw [nsL_length, ← nsF_full]
      exact HO.out
theorem iNums (t p : Int) (s : ByteArray) (from' k : Int) (w : World) (htab : Tab w) :
    Calls Tryd.prog 14 #[.agg #[.int .i64 t, .int .i64 p], .string s, .int .i64 from', .int .i64 k] w (RetInts (nwL t p s from' k) (nwB t p s from' k) w) := by
  cases h : askNW t p s from' k
  · exact iNums_no t p s from' k w htab h
  · have : 0 ≤ k := by simp only [askNW, inB, Bool.and_eq_true, decide_eq_true_eq] at h; omega
    obtain ⟨K, rfl⟩ : ∃ K : Nat, k = K := ⟨k.toNat, by omega⟩
    exact iNums_yes t p s from' K w htab h
end Go.Proofs.YteekglabcimfpaaDoor
