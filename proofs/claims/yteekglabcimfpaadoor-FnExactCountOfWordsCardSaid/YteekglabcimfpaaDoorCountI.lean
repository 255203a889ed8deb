/-
  'CountOfWords' of the program.
-/
import Derived.Test.YteekglabcimfpaaDoorCountY
import Derived.Test.YteekglabcimfpaaDoorBig
import Derived.Test.YteekglabcimfpaaDoorCopyI
import Derived.Maps.OwnSet
import Derived.Maps.OwnOps
namespace Go.Proofs.YteekglabcimfpaaDoor
open Go.RowKit Go.Maps
set_option linter.unusedVariables false

theorem keyedInt : Keyed Tryd.prog 3 := int_keyed Tryd.underlying3
theorem askC_iff {t p : Int} {xs : List Int} {k : Int} : askC t p xs k = true ↔ goodB t p = true ∧ xs.length ≤ 100 ∧ (xs.all (fun n => inB n (-1000000000000) 1000000000000) = true) ∧ inB k 0 15 = true := by
  simp only [askC, Bool.and_eq_true, decide_eq_true_eq]
theorem rkey_wf {L : Nat} (hL : L ≤ 15) (n : Int) : (Lit.int .i64 (n % 2 ^ L)).wf = true := by
  obtain ⟨pw1, pw0⟩ := pow2_le hL
  have e0 := Int.emod_nonneg n (show (2 : Int) ^ L ≠ 0 by omega)
  have e1 := Int.emod_lt_of_pos n pw0
  rw [Lit.wf]
  have e2 : IntKind.i64.min = -9223372036854775808 := rfl
  have e3 : IntKind.i64.max = 9223372036854775807 := rfl
  simp only [e2, e3, Bool.and_eq_true, decide_eq_true_eq]
  omega

set_option maxRecDepth 100000 in
set_option maxHeartbeats 4000000 in
theorem iCount_no (t p : Int) (xs : List Int) (k : Int) (v : Value) (w : World) (hl : xs.length ≤ 1048576) (h : IntsIn w v xs) (hno : goodB t p = false ∨ inB k 0 15 = false ∨ 100 < xs.length) :
    Calls Tryd.prog 26 #[.agg #[.int .i64 t, .int .i64 p], v, .int .i64 k] w fun e w' => e = .returned (.tuple #[.int .i64 0, .bool false]) ∧ Below w.heap.size w w' := by
  have HM := Lib.hid (fun w => isMap_any t p w)
  have HL := Lib.hid (fun w => isLength_any k w)
  obtain ⟨a, cap, rfl, _⟩ := h
  cases hg : goodB t p
  · rw [hg] at HM
    clear hg hno hl
    generalize xs.length = K
    go_enter Tryd.func26, Tryd.ntmps26
    go_wp2_with fail
    refine (HM.out _).mono ?_
    rintro e w1 ⟨rfl, hb1⟩
    obtain ⟨c0, c1, hz, hb⟩ := map_block hb1
    clear hb1
    go_wp2_with fail
    go_ret2
    exact ⟨rfl, hb⟩
  · rw [hg] at HM
    cases hc : inB k 0 15
    · rw [hc] at HL
      clear hg hno hl hc
      generalize xs.length = K
      go_enter Tryd.func26, Tryd.ntmps26
      go_wp2_with fail
      refine (HM.out _).mono ?_
      rintro e w1 ⟨rfl, hb1⟩
      obtain ⟨c0, c1, hz, hb⟩ := map_block hb1
      clear hb1
      go_wp2_with (go_at_call 44; refine (HL.out _).mono ?_; rintro e w' ⟨rfl, rfl⟩)
      go_ret2
      exact ⟨rfl, hb⟩
    · rw [hc] at HL
      have hk0 : 100 < xs.length := by simpa [hg, hc] using hno
      have hk1 : 100 < (xs.length : Int) := by omega
      clear hg hno hl hc hk0
      generalize xs.length = K at hk1 ⊢
      go_enter Tryd.func26, Tryd.ntmps26
      go_wp2_with fail
      refine (HM.out _).mono ?_
      rintro e w1 ⟨rfl, hb1⟩
      obtain ⟨c0, c1, hz, hb⟩ := map_block hb1
      clear hb1
      go_wp2_with (go_at_call 44; refine (HL.out _).mono ?_; rintro e w' ⟨rfl, rfl⟩)
      go_ret2
      exact ⟨rfl, hb⟩

set_option maxRecDepth 100000 in
set_option maxHeartbeats 8000000 in
theorem iCount_loop (t p : Int) (xs : List Int) (L : Nat) (v : Value) (w : World) (htab : Tab w) (h : IntsIn w v xs) (hg : goodB t p = true) (hL : L ≤ 15) (hl : xs.length ≤ 100) :
    Calls Tryd.prog 26 #[.agg #[.int .i64 t, .int .i64 p], v, .int .i64 (L : Int)] w fun e w' => e = .returned (.tuple #[.int .i64 (cntC t p xs L), .bool (askC t p xs L)]) ∧ Below w.heap.size w w' := by
  have hk : inB (L : Int) 0 15 = true := by simp [inB]; omega
  have HM := Lib.hid (fun w => isMap_any t p w)
  have HL := Lib.hid (fun w => isLength_any (L : Int) w)
  rw [hg] at HM
  rw [hk] at HL
  have HY : Hid ((∀ j, j < xs.length → numB (xs.getD j 0) = true) → askC t p xs L = true ∧ cntC t p xs L = ((Maps.size (rset L xs xs.length) : Nat) : Int)) := Lib.hid (fun hall => by
    have ha : askC t p xs L = true := askC_iff.2 ⟨hg, hl, all_full (fun j hj => hall j hj), hk⟩
    refine ⟨ha, ?_⟩
    rw [cntC_yes ha, rset_size hg]
    rfl)
  have HN : Hid (∀ j, j < xs.length → numB (xs.getD j 0) = false → askC t p xs L = false ∧ cntC t p xs L = 0) := Lib.hid (fun j hj hn => by
    have ha : askC t p xs L = false := by
      rw [Bool.eq_false_iff]
      intro h'
      have := (askC_iff.1 h').2.2.1
      rw [all_not hj hn] at this
      cases this
    exact ⟨ha, cntC_no ha⟩)
  generalize cntC t p xs L = r at HY HN ⊢
  generalize askC t p xs L = ok at HY HN ⊢
  have HX := Lib.hid h
  have HT := Lib.hid htab
  have HR := Lib.hid (fun n w h => residueOf_any n L hL w h)
  have HWF := Lib.hid (fun n => rkey_wf (L := L) hL n)
  have HSZ := Lib.hid (rset_zero L xs)
  have HSS := Lib.hid (fun k hk => rset_succ L xs k hk)
  obtain ⟨a, cap, rfl, hz0⟩ := h
  clear hz0 hg hk htab
  obtain ⟨K, hK⟩ : ∃ K, K = xs.length := ⟨_, rfl⟩
  have HK := Lib.hid hK
  rw [← hK] at hl HX HY HN HSS ⊢
  have hk1 : ¬ (100 < (K : Int)) := by omega
  have hk2 : (K : Int) ≤ 100 := by omega
  have hL1 : (L : Int) ≤ 15 := by omega
  clear hK
  have hmm := @run_makeMap Tryd.prog
  go_enter Tryd.func26, Tryd.ntmps26
  go_wp2_with fail
  refine (HM.out _).mono ?_
  rintro e w1 ⟨rfl, hb1⟩
  obtain ⟨c0, c1, hz, hb⟩ := map_block hb1
  clear hb1
  go_wp2_with (go_at_call 44; refine (HL.out _).mono ?_; rintro e w' ⟨rfl, rfl⟩)
  have hzz : w.heap.size ≤ w1.heap.size := Nat.le_of_lt hz
  go_loopw [27] (fun x wr => ∃ j : Nat, j ≤ K ∧ x = .int .i64 j ∧ Hid (∀ i, i < j → numB (xs.getD i 0) = true) ∧ wr.ownsMap Tryd.prog 3 (plainElem (H := Unit) Tryd.prog 4) w1.heap.size j (rset L xs j) ∧ Below w.heap.size w wr) (fun x _ => K - (intOf x).toNat)
  case atStart => exact ⟨0, by omega, rfl, Lib.hid (fun i hi => by omega), by rw [HSZ.out]; exact World.ownsMap_made _ _ _ _, hb.alloc hzz _⟩
  case round =>
    clear c0 c1 hb
    obtain ⟨j, hj, rfl, HALL, hown, hbr⟩ := hrel
    have HBR := Lib.hid hbr
    by_cases hlt : j < K
    · obtain ⟨x, hx⟩ : ∃ x, x = xs.getD j 0 := ⟨_, rfl⟩
      obtain ⟨g, q, rfl⟩ : ∃ g, wr.cell? ⟨g, j, none⟩ = some (.int .i64 x) ∧ a = some ⟨g, 0, none⟩ := by
        obtain ⟨a', cap', he, hh⟩ := HX.out
        obtain ⟨g, rfl, hgl, hr⟩ := hh (by intro e; rw [e] at HK; have := HK.out; simp at this; omega)
        injection he with h1 h2 h3
        subst h1
        rw [hx]
        exact ⟨g, (HBR.out.cell (p := ⟨g, j, none⟩) hgl).trans (hr j (by rw [← HK.out]; exact hlt)).1, rfl⟩
      have HNJ := Lib.hid (HN.out j hlt)
      have HSJ := Lib.hid (HSS.out j hlt)
      have HAJ : Hid (numB x = true → ∀ i, i < j + 1 → numB (xs.getD i 0) = true) := Lib.hid (fun hn i hi => by
        by_cases e : i = j
        · rw [e, ← hx]; exact hn
        · exact HALL.out i (by omega))
      rw [← hx] at HNJ HSJ
      have HI := Lib.hid (fun w => isNumber_any x w)
      have HRX := Lib.hid (fun w h => HR.out x w h)
      have hkey : keyOf Tryd.prog 3 (.int .i64 (x % 2 ^ L)) = some (rkey L x) := keyOf_int_mk Tryd.underlying3 (HWF.out x)
      have HTR := Lib.hid (tab_below HT.out hbr (Nat.le_refl _))
      have hj0 : (0 : Int) ≤ (j : Int) := by omega
      have hj1 : (j : Int) < (K : Int) := by omega
      have hjm : j < maxLen := by unfold maxLen; omega
      clear hx
      cases hn : numB x
      · rw [hn] at HI
        have HNO := Lib.hid (HNJ.out hn)
        clear hn hkey hown hbr
        go_wp2_with (go_at_call 35; refine (HI.out _).mono ?_; rintro e w' ⟨rfl, rfl⟩)
        go_ret2
        exact ⟨ret_ib HNO.out.2.symm HNO.out.1.symm, HBR.out⟩
      · rw [hn] at HI
        have HAY := Lib.hid (HAJ.out hn)
        obtain ⟨y, hy⟩ : ∃ y, y = x % 2 ^ L := ⟨_, rfl⟩
        have HRY : Hid (∀ w, Tab w → Calls Tryd.prog 36 #[.int .i64 x, .int .i64 (L : Int)] w fun e w' => e = .returned (.int .i64 y) ∧ w = w') := Lib.hid (by rw [hy]; exact HRX.out)
        rw [← hy] at hkey
        clear hn hbr hy
        go_wp2_with (first
          | (go_at_call 35; refine (HI.out _).mono ?_; rintro e w' ⟨rfl, rfl⟩)
          | (go_at_call 36; refine (HRY.out _ HTR.out).mono ?_; rintro e w' ⟨rfl, rfl⟩)
          | (at_mapUpdate; refine wpList_mapUpdate_own _ rfl _ _ _ 64 rfl 3 4 keyedInt Tryd.underlying64 (plainElem (H := Unit) Tryd.prog 4) w1.heap.size j _ rfl hown hjm _ _ _ rfl rfl hkey _ [] (plainElem_bool Tryd.underlying4 true) ?_; intro w3 hown3 hgrow3))
        exact ⟨⟨j + 1, hlt, by go_num, HAY, by rw [HSJ.out]; exact hown3, HBR.out.grown hgrow3 HBR.out.size (fun i hi => by cases hi; exact hzz)⟩, by simp [intOf]; omega⟩
    · obtain rfl : j = K := by omega
      have HYY := Lib.hid (HY.out HALL.out)
      clear hbr
      go_wp2_with (first
        | (at_len; refine wpList_len_own _ rfl _ 64 rfl 3 4 Tryd.underlying64 _ w1.heap.size j _ rfl hown ?_)
        | fail)
      go_ret2
      exact ⟨ret_ib HYY.out.2.symm HYY.out.1.symm, HBR.out⟩
/-- What both come to, whatever is asked. -/
theorem iCount (t p : Int) (xs : List Int) (k : Int) (v : Value) (w : World) (htab : Tab w) (hl : xs.length ≤ 1048576) (h : IntsIn w v xs) :
    Calls Tryd.prog 26 #[.agg #[.int .i64 t, .int .i64 p], v, .int .i64 k] w fun e w' => e = .returned (.tuple #[.int .i64 (cntC t p xs k), .bool (askC t p xs k)]) ∧ Below w.heap.size w w' := by
  by_cases hno : goodB t p = false ∨ inB k 0 15 = false ∨ 100 < xs.length
  · have ha : askC t p xs k = false := by
      rw [Bool.eq_false_iff]
      intro h'
      obtain ⟨a1, a2, a3, a4⟩ := askC_iff.1 h'
      rcases hno with h | h | h
      · rw [a1] at h; cases h
      · rw [a4] at h; cases h
      · omega
    rw [ha, cntC_no ha]
    exact iCount_no t p xs k v w hl h hno
  · simp only [not_or, Bool.not_eq_false] at hno
    obtain ⟨a1, a2, a3⟩ := hno
    have : 0 ≤ k ∧ k ≤ 15 := by simpa [inB] using a2
    obtain ⟨L, rfl⟩ : ∃ L : Nat, k = L := ⟨k.toNat, by omega⟩
    exact iCount_loop t p xs L v w htab h a1 (by omega) (by omega)
theorem sCount (t p : Int) (xs : List Int) (k : Int) (v : Value) (w : World) (hl : xs.length ≤ 1048576) (h : IntsIn w v xs) :
    Calls Tryd.prog 24 #[.agg #[.int .i64 t, .int .i64 p], v, .int .i64 k] w fun e w' => e = .returned (.tuple #[.int .i64 (cntC t p xs k), .bool (askC t p xs k)]) ∧ Below w.heap.size w w' := by
  cases ha : askC t p xs k
  · rw [cntC_no ha]
    exact sCount_no t p xs k v w hl h ha
  · have : 0 ≤ k ∧ k ≤ 15 := by simpa [inB] using (askC_iff.1 ha).2.2.2
    obtain ⟨L, rfl⟩ : ∃ L : Nat, k = L := ⟨k.toNat, by omega⟩
    rw [cntC_yes ha]
    exact sCount_yes t p xs L v w h ha
end Go.Proofs.YteekglabcimfpaaDoor
