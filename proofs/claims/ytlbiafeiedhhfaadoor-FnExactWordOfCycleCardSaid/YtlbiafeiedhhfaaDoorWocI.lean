/-
  'WordOfCycle' of the program.
-/
import Derived.Test.YtlbiafeiedhhfaaDoorWocS
import Derived.Deep.RegionLaw
namespace Go.Proofs.YtlbiafeiedhhfaaDoor
open Go.RowKit
set_option linter.unusedVariables false

theorem odds_even {C : List Int} {j : Nat} (h : j < C.length) (he : C.getD j 0 % 2 = 0) : oddsC (C.take (j + 1)) = oddsC (C.take j) := by
  have e : C.getD j 0 = C[j] := by rw [List.getD_eq_getElem?_getD, List.getElem?_eq_getElem h]; rfl
  rw [e] at he
  rw [List.take_add_one, List.getElem?_eq_getElem h, Option.toList_some, oddsC_snoc, if_pos he, List.append_nil]
theorem odds_odd {C : List Int} {j : Nat} (h : j < C.length) (he : ¬ C.getD j 0 % 2 = 0) : oddsC (C.take (j + 1)) = oddsC (C.take j) ++ [C.getD j 0] := by
  have e : C.getD j 0 = C[j] := by rw [List.getD_eq_getElem?_getD, List.getElem?_eq_getElem h]; rfl
  rw [e] at he ⊢
  rw [List.take_add_one, List.getElem?_eq_getElem h, Option.toList_some, oddsC_snoc, if_neg he]
theorem odds_len (C : List Int) : (oddsC C).length ≤ C.length := List.length_filter_le _ _
theorem odds_best {C : List Int} {M : Nat} (hM : (oddsC C).length = M + 1) : best false (fun j => (oddsC C).getD j 0) M = lowO C := by
  obtain ⟨z, hz⟩ := List.exists_mem_of_ne_nil (oddsC C) (fun e => by rw [e] at hM; simp at hM)
  have := best_of (lowO_least hz).1 (fun z hz => (lowO_least hz).2)
  rwa [hM, Nat.add_sub_cancel] at this

set_option maxRecDepth 100000 in
set_option maxHeartbeats 8000000 in
theorem iWordOfCycle (t p n : Int) (w : World) (htab : Tab w) :
    Calls Tryd.prog 6 #[.agg #[.int .i64 t, .int .i64 p], .int .i64 n] w fun e w' => e = .returned (.tuple #[.string (wocS t p n), .bool (wocB t p n)]) ∧ Below w.heap.size w w' := by
  have HS := Lib.hid (fun w => iCycleOf t p n w)
  have HTAB := Lib.hid htab
  clear htab
  cases ho : cyA t p n with
  | none =>
    have HB := Lib.hid (woc_none ho).1
    have HY := Lib.hid (woc_none ho).2
    have HS2 : Hid (∀ w, Calls Tryd.prog 9 #[.agg #[.int .i64 t, .int .i64 p], .int .i64 n] w (RetInts (cyL t p n) false w)) := by rw [ho] at HS; exact HS
    clear ho HS
    go_enter Tryd.func6, Tryd.ntmps6
    go_wp2_with fail
    refine (HS2.out _).mono ?_
    rintro e w1 ⟨v, rfl, _, hb1⟩
    obtain ⟨c0, c1, hz, hb⟩ := map_block hb1
    clear hb1
    go_wp2_with fail
    go_ret2
    exact ⟨ret_sb (by rw [HY.out]; rfl) HB.out.symm, hb⟩
  | some y =>
    obtain ⟨K, i⟩ := y
    obtain ⟨hwoc, hone⟩ := woc_of ho
    obtain ⟨hg, _, hF⟩ := cyA_some ho
    obtain ⟨i0, hi, hi0, hi1, hi2⟩ := info_parts info3
    have hlen1 : 0 < (cyL t p n).length := by rw [cyL_some ho, cycT_length]; have := hF.lt; omega
    have hle := cyL_len t p n
    have HS2 : Hid (∀ w, Calls Tryd.prog 9 #[.agg #[.int .i64 t, .int .i64 p], .int .i64 n] w (RetInts (cyL t p n) true w)) := by rw [ho] at HS; exact HS
    have HYES := Lib.hid (fun h => woc_yes ho h)
    have HNO := Lib.hid (fun h => woc_no ho h)
    have hEE : wocE t p n = (cyL t p n).length - (oddsC (cyL t p n)).length := rfl
    have HG := Lib.hid hg
    clear ho HS hg hF
    obtain ⟨C, hC⟩ : ∃ C, cyL t p n = C := ⟨_, rfl⟩
    obtain ⟨E, hE⟩ : ∃ E, wocE t p n = E := ⟨_, rfl⟩
    rw [hC] at hwoc hlen1 hle HS2 HYES hone hEE
    rw [← hEE] at hwoc
    rw [hE] at hwoc HYES HNO hEE
    have HEV := Lib.hid (fun j (hj : j < C.length) (he : C.getD j 0 % 2 = 0) => odds_even hj he)
    have HOD := Lib.hid (fun j (hj : j < C.length) (he : ¬ C.getD j 0 % 2 = 0) => odds_odd hj he)
    have HTL := Lib.hid (fun j => Nat.le_trans (odds_len (C.take j)) (List.length_take_le j C))
    have HBST := Lib.hid (fun M (hM : (oddsC C).length = M + 1) => odds_best hM)
    have HALL := Lib.hid (show C.take C.length = C from List.take_length)
    have hol := odds_len C
    obtain ⟨r, hr⟩ : ∃ r, lowO C = r := ⟨_, rfl⟩
    rw [hr] at hwoc HYES hone HBST
    have HW := Lib.hid hwoc
    have HONE := Lib.hid hone
    obtain ⟨L, hL⟩ : ∃ L, C.length = L := ⟨_, rfl⟩
    have hL0 : (0 : Int) < (L : Int) := by omega
    have hL1 : (L : Int) ≤ 1000 := by omega
    rw [hL] at HEV HOD hEE hol HALL HONE
    have HL := Lib.hid hL
    have HEE := Lib.hid hEE
    have HOL := Lib.hid hol
    clear hwoc hr hE hlen1 hle hC hone hEE hol
    go_enter Tryd.func6, Tryd.ntmps6
    go_wp2_with fail
    refine (HS2.out _).mono ?_
    rintro e w1 ⟨v, rfl, hrow, hb1⟩
    obtain ⟨c0, c1, hz, hb⟩ := map_block hb1
    obtain ⟨g, cap, rfl, _, hgl, _, _, hir⟩ := ints_row hrow (by omega)
    rw [hL]
    have HC : Hid (∀ j, j < L → w1.cell? ⟨g, j, none⟩ = some (.int .i64 (C.getD j 0))) := Lib.hid (fun j hj => (hir j (by rw [hL]; exact hj)).1)
    have HB1 := Lib.hid hb
    clear hb1 hb hrow hir hL
    go_wp2_with fail
    go_loopw [8, 22] (fun v i wr => ∃ j : Nat, j ≤ L ∧ i = .int .i64 j ∧ IntsAt wr w1.heap.size v (oddsC (C.take j)) ∧ Below w1.heap.size w1 wr) (fun _ i _ => L - (RowKit.intOf i).toNat)
    case atStart => exact ⟨0, Nat.zero_le _, rfl, World.ownsRow_nil _ _ _ _, Below.refl _ _⟩
    case round =>
      obtain ⟨j, hj, rfl, hown, hbel⟩ := hrel
      have HO := Lib.hid hown
      have HB := Lib.hid hbel
      clear hown hbel
      by_cases hlt : j < L
      · have q := (HB.out.cell (p := ⟨g, j, none⟩) hgl).trans (HC.out j hlt)
        have hev := HEV.out j hlt
        have hod := HOD.out j hlt
        have htl := HTL.out j
        obtain ⟨x, hx⟩ : ∃ x, C.getD j 0 = x := ⟨_, rfl⟩
        obtain ⟨ods, hods⟩ : ∃ ods, oddsC (C.take j) = ods := ⟨_, rfl⟩
        rw [hx] at q hev hod
        rw [hods] at hev hod htl HO
        have HIO := Lib.hid (fun w => isOdd_any x w)
        have hj1 : (j : Int) < (L : Int) := by omega
        cases hox : oddB x
        · rw [hox] at HIO
          have HN := Lib.hid (hev (oddB_even hox))
          clear hox hev hod hx hods htl
          go_wp2_with (go_at_call 10; refine (HIO.out _).mono ?_; rintro e w' ⟨rfl, rfl⟩)
          exact ⟨⟨j + 1, hlt, by go_num, by rw [HN.out]; exact HO.out, HB.out⟩, by simp [RowKit.intOf]; omega⟩
        · rw [hox] at HIO
          have HN := Lib.hid (hod (oddB_odd hox))
          have HTL1 := Lib.hid htl
          clear hox hev hod hx hods htl
          go_wp2_with (first
            | (go_at_call 10; refine (HIO.out _).mono ?_; rintro e w' ⟨rfl, rfl⟩)
            | (at_builtin; refine wpList_append_own _ rfl _ _ 29 rfl w1.heap.size 3 i0 (.int .i64 0) 1 8 Tryd.underlying29 hi hi0 hi1 hi2 rfl (by decide) _ _ _ rfl (HO.out.alloc _) ⟨wr.heap.size, 0, none⟩ 1 1 [.int .i64 x] rfl rfl (fun j u hu => new_cell _ _ _ hu) (by simp [Value.oneCell']) (by have := HTL1.out; unfold maxLen; omega) (by have := HTL1.out; omega) (by have := HB.out.size; simp; omega) ?_; intro v' w3 hown3 hgrow _; have HB3 := Lib.hid ((HB.out.alloc HB.out.size _).grown hgrow (by have := HB.out.size; simp; omega) (fun k e => (HO.out.lt k e).1)); have HO3 := Lib.hid hown3; clear hown3 hgrow))
          refine ⟨⟨j + 1, hlt, by go_num, ?_, HB3.out⟩, by simp [RowKit.intOf]; omega⟩
          rw [HN.out]
          unfold IntsAt
          rw [List.map_append, List.length_append]
          exact HO3.out
      · obtain rfl : j = L := by omega
        rw [HALL.out] at HO
        have hj1 : ¬ ((j : Int) < (j : Int)) := by omega
        have d0 := (HB.out.cell (p := ⟨w.heap.size, 0, none⟩) hz).trans c0
        have d1 := (HB.out.cell (p := ⟨w.heap.size, 1, none⟩) hz).trans c1
        have hzr : w.heap.size < wr.heap.size := Nat.lt_of_lt_of_le hz HB.out.size
        have HBR := Lib.hid (HB1.out.trans (HB.out.mono (Nat.le_of_lt hz)))
        have hle := HOL.out
        have heq := HEE.out
        clear c0 c1 HC HEV HOD HTL hlt hj
        by_cases hod : oddsC C = []
        · obtain ⟨hr0, hl1⟩ := HONE.out hod
          obtain ⟨a, cap2, rfl⟩ := HO.out.form
          have hl0 : (oddsC C).length = 0 := by rw [hod]; rfl
          rw [hl0] at heq ⊢
          obtain ⟨hy1, hy2⟩ := HYES.out (by omega)
          rw [heq, hl1, hr0] at hy2
          have HY1 := Lib.hid hy1
          have HY2 := Lib.hid hy2
          clear hr0 hl1 hy1 hy2 hod hl0 heq hle HONE HEE HYES HNO
          go_wp2_with fail
          go_ret2
          exact ⟨ret_sb (by rw [HY2.out]; rfl) HY1.out.symm, HBR.out⟩
        · obtain ⟨M, hM⟩ : ∃ M, (oddsC C).length = M + 1 := ⟨(oddsC C).length - 1, by have := List.length_pos_iff.2 hod; omega⟩
          obtain ⟨g2, cap2, rfl, _, hg2, _, _, hir2⟩ := ints_row HO.out (by omega)
          have hbst := HBST.out M hM
          rw [hM] at heq hle ⊢
          have HCC : Hid (∀ m, m ≤ M → wr.cell? ⟨g2, m, none⟩ = some (.int .i64 ((fun m => (oddsC C).getD m 0) m))) := Lib.hid (fun m hm => (hir2 m (by omega)).1)
          obtain ⟨F, hF⟩ : ∃ F : Nat → Int, (fun m => (oddsC C).getD m 0) = F := ⟨_, rfl⟩
          rw [hF] at HCC hbst
          have HBS := Lib.hid hbst
          have hMi : (M : Int) + 1 ≤ (j : Int) := by omega
          have hEi : (j : Int) - ((M : Int) + 1) = (E : Int) := by omega
          have hM3 : M ≤ 1000 := by omega
          clear hir2 hF hbst hM hod hle heq HBST HONE HEE
          by_cases h10 : E ≤ 10
          · obtain ⟨hy1, hy2⟩ := HYES.out h10
            have HY1 := Lib.hid hy1
            have HY2 := Lib.hid hy2
            have hng : ¬ (10 < (j : Int) - ((M : Int) + 1)) := by omega
            have hnum : numB r = true := HW.out.num 0
            have hask : askL t p r E = true := by
              rw [askL, HG.out, hnum]
              simp [inB]
              omega
            have HWO : Hid (∀ w, Tab w → Calls Tryd.prog 11 #[.agg #[.int .i64 t, .int .i64 p], .int .i64 r, .int .i64 ((j : Int) - ((M : Int) + 1))] w fun e w' => e = .returned (.tuple #[.string (wby (wrd t p r E)), .bool true]) ∧ Below w.heap.size w w') := Lib.hid (fun w ht => by
              have h := iWordOf t p r (E : Int) w ht
              rw [show wof t p r (E : Int) = wby (wrd t p r E) by rw [wof, if_pos hask]; rfl, hask] at h
              rw [hEi]
              exact h)
            have HTR := Lib.hid (tab_below HTAB.out HBR.out (Nat.le_refl _))
            have HMIN := Lib.hid (min_any F M g2 cap2 wr.drew hM3 HCC.out)
            rw [HBS.out] at HMIN
            have HWD := Lib.hid (HWO.out wr.drew (tab_below HTR.out ((Below.refl _ wr).drew) (Nat.le_refl _)))
            clear hy1 hy2 hnum hask hEi hM3 HWO
            go_wp2_with fail
            go_region_law (first
              | (go_simp; go_at_call 12; refine HMIN.out.mono ?_; rintro e w4 ⟨rfl, rfl⟩)
              | (go_simp; go_at_call 11; refine HWD.out.mono ?_; rintro e w5 ⟨rfl, hb5⟩; have HB5 := Lib.hid hb5; clear hb5))
            all_goals
              go_wp2_with fail
              go_ret2
              exact ⟨ret_sb HY2.out.symm HY1.out.symm, (HBR.out.drew).trans (HB5.out.mono (Nat.le_of_lt hzr))⟩
          · obtain ⟨hy1, hy2⟩ := HNO.out h10
            have HY1 := Lib.hid hy1
            have HY2 := Lib.hid hy2
            have hng : 10 < (j : Int) - ((M : Int) + 1) := by omega
            clear hy1 hy2 hEi hM3
            go_wp2_with fail
            go_ret2
            exact ⟨ret_sb (by rw [HY2.out]; rfl) HY1.out.symm, HBR.out⟩
end Go.Proofs.YtlbiafeiedhhfaaDoor
