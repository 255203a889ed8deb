/-
  'intoCycle' of the program: what stands ahead of the cycle is deleted while the map is ranged over; the least key; the path from it on.
-/
import Derived.Test.YtponmblponfdaaaSteps
import Derived.Test.YtponmblponfdaaaOrbN
import Derived.Test.YtponmblponfdaaaShelf
import Derived.Test.YtponmblponfdaaaWalkPath
import Derived.Test.YtponmblponfdaaaOwn
import Derived.Test.YtponmblponfdaaaSum
import Derived.Maps.RangeWalk
import Derived.Shelf.SlIterI.Collect
namespace Go.Proofs.Ytponmblponfdaaa
open Go.RowKit Go.Maps
set_option linter.unusedVariables false

theorem keysA_any (mb : Option Nat) (w : World) :
    Calls Try.prog 81 #[.map mb] w fun e w' => e = .returned (.func (.func 88) #[] #[.pointer (some ⟨w.heap.size, 0, none⟩)]) ∧ w' = w.alloc (.cells #[.map mb] 88) :=
  (callsIn_wide (n := 5)).1 (AnyZI.keys_in Try.keysA Fence.wide 5 trivial rfl mb w)
theorem collectA_any (Bm b nn : Nat) (D : DataW Unit) (w : World) (hBm : Bm < w.heap.size) (hm : w.cell? ⟨Bm, 0, none⟩ = some (.map (some b))) (hown : w.ownsMap Try.prog 3 (plainElem Try.prog 3) b nn D) (hmax : Maps.size D ≤ 1001) :
    Calls Try.prog 80 #[.func (.func 88) #[] #[.pointer (some ⟨Bm, 0, none⟩)]] w fun e w' =>
      ∃ (v : Value) (ss : List Int), e = .returned v ∧ ss.Perm (intKeys D) ∧ IntsAt w' w.heap.size v ss ∧ Below w.heap.size w w' := by
  have hseq : SeqGives Fence.wide 3 Try.prog 88 #[.pointer (some ⟨Bm, 0, none⟩)] encZ (fun ss => ss.Perm (intKeys D)) (Maps.size D) w :=
    AnyZI.keys_gives (ρ := Try.keysA_ren) { Try.keysA with } Fence.wide _ trivial rfl (by omega) Bm b nn D _ hBm hm hown
  have h := AnyZI.collect_in Try.collectA Fence.wide 5 trivial trivial rfl (by omega) 88 #[.pointer (some ⟨Bm, 0, none⟩)] trivial (enters_of Try.func88 (by kernel_rfl) rfl) _ _ (by unfold maxLen; omega) (by omega) _ hseq
  refine ((callsIn_wide (n := 5)).1 h).mono ?_
  rintro e w' ⟨v, ss, rfl, hp, hrow, _, hb⟩
  exact ⟨v, ss, rfl, hp, hrow, hb⟩

/-- What intoCycle hands back. -/
def RetInto (t p n : Int) (w : World) (e : Ending) (w' : World) : Prop :=
  ∃ v, e = .returned (.tuple #[.int .i64 (ldA t p n).1, v, .bool (cyA t p n).isSome]) ∧ IntsAt w' w.heap.size v (cyL t p n) ∧ Below w.heap.size w w'
theorem retInto_no {t p n : Int} {w w' : World} (h : cyA t p n = none) (hb : Below w.heap.size w w') : RetInto t p n w (.returned (.tuple #[.int .i64 0, .slice none 0 0, .bool false])) w' := by
  refine ⟨.slice none 0 0, ?_, ?_, hb⟩
  · rw [ldA_none h, h]; rfl
  · rw [cyL_none h]; exact World.ownsRow_nil _ _ _ _
theorem stepsOf_bad (t p n : Int) (w : World) (hg : goodB t p = false) :
    Calls Try.prog 78 #[.agg #[.int .i64 t, .int .i64 p], .int .i64 n] w fun e w' => e = .returned (.tuple #[.map none, .int .i64 0, .bool false]) ∧ Below w.heap.size w w' := by
  have HM := Lib.hid (fun w => isMap_any t p w)
  rw [hg] at HM
  clear hg
  go_enter Try.func78, Try.ntmps78
  go_wp2
  go_step3
  go_wp2_with fail
  refine (HM.out _).mono ?_
  rintro e w1 ⟨rfl, hb1⟩
  have HB := Lib.hid (((Below.refl _ w).alloc (Nat.le_refl _) _).trans (hb1.mono (by simp)))
  clear hb1
  go_wp2_with fail
  try rw [Exit.noGoto_ret]
  go_ret3
  exact ⟨rfl, HB.out⟩

/-- The path from the least number on. -/
theorem pathT_any {t p n : Int} {K i : Nat} (hg : goodB t p = true) (hF : Fnd (nx t p) n K i) (L : Nat) (hL : K - i = L + 1) (x : Int) (hx : itr (nx t p) (i + leastJ (nx t p) n K i) n = x) (w : World) :
    Calls Try.prog 75 #[.agg #[.int .i64 t, .int .i64 p, .int .i64 x], .int .i64 (L : Int)] w fun e w' => ∃ v, e = .returned (.tuple #[v, .bool true]) ∧ IntsAt w' w.heap.size v (cycT (nx t p) n K i) ∧ Below w.heap.size w w' := by
  have hl := hF.le
  have hask : askB t p x L = true := by
    unfold askB
    rw [hg, ← hx, hF.num (by omega)]
    simp [inB]
    omega
  have hall : allB (nx t p) x (L + 1) = true := by rw [← hx]; exact hF.allFrom (by omega) _
  have ha : (aft t p (nx t p) x L).2 = true := by rw [aft_two, hask, Int.toNat_natCast, hall]; rfl
  have hp : pathIf t p x L = cycT (nx t p) n K i := by
    rw [pathIf, if_pos ha, cycT, cycFrom_pathL hF.lt, hx, show K - i - 1 = L by omega]
    rfl
  refine (path_any t p x L w).mono ?_
  rintro e w' ⟨v, rfl, hrow, hb, _⟩
  rw [hp] at hrow
  rw [ha]
  exact ⟨v, rfl, hrow, hb⟩

set_option maxRecDepth 100000 in
set_option maxHeartbeats 8000000 in
theorem intoCycle_yes (t p n : Int) (K i : Nat) (w : World) (h : cyA t p n = some (K, i)) :
    Calls Try.prog 66 #[.agg #[.int .i64 t, .int .i64 p], .int .i64 n] w (RetInto t p n w) := by
  obtain ⟨hg, hfn, hF⟩ := cyA_some h
  have HS := Lib.hid (fun w => stepsOf_any t p n w hg)
  rw [hfn] at HS
  have HF := Lib.hid hF
  have HH := Lib.hid h
  obtain ⟨L, hL⟩ : ∃ L, K - i = L + 1 := ⟨K - i - 1, by have := hF.lt; omega⟩
  obtain ⟨x, hx⟩ : ∃ x, itr (nx t p) (i + leastJ (nx t p) n K i) n = x := ⟨_, rfl⟩
  have HPT := Lib.hid (fun w => pathT_any hg hF L hL x hx w)
  have HL := Lib.hid hL
  have HX := Lib.hid hx
  have hi : (i : Int) ≤ 1000 := by have := hF.lt; have := hF.le; omega
  have hLi : (L : Int) ≤ 1000 := by have := hF.le; omega
  clear hg hfn hF h hL hx
  go_enter Try.func66, Try.ntmps66
  go_wp2_with fail
  refine (HS.out _).mono ?_
  rintro e w1 (⟨K', i', b, ho, rfl, hb0, hown, hb1⟩ | ⟨hn, _, _⟩)
  case inr => cases hn
  obtain ⟨rfl, rfl⟩ : K = K' ∧ i = i' := by simpa using ho
  obtain ⟨c0, c1, hz, hb⟩ := map_block hb1
  have hb0' : w.heap.size + 1 ≤ b := by simpa using hb0
  have HB1 := Lib.hid hb
  have HO := Lib.hid hown
  have hbl : b < w1.heap.size := hown.lt
  clear hb0 hb1 hb ho hown
  go_wp2_with (first
    | (at_range; refine wpList_range_own _ rfl _ 88 rfl 3 3 keyedInt Try.underlying88 (plainElem (H := Unit) Try.prog 3) b K _ rfl HO.out ?_; intro w0 hrg0 hg0 hs0
       have HR0 := Lib.hid hrg0
       have HG0 := Lib.hid hg0
       clear hrg0 hg0 hs0))
  go_frame
  go_loopw [10] (fun _ wr => ∃ (left : Lit → Bool) (cnt : Nat) (D : DataW Unit), wr.ranges Try.prog 3 (plainElem Try.prog 3) b w1.heap.size K D left cnt ∧ Left (nx t p) n K i left D ∧ Below (w.heap.size + 1) w1 wr)
    (fun _ wr => wr.rangeLeft b w1.heap.size)
  case atStart => exact ⟨_, _, _, HR0.out, Left.start HF.out, (Below.refl _ _).grown HG0.out hz (fun k e => by cases e)⟩
  case round =>
    obtain ⟨left, cnt, D, hrg, hLf, hbel⟩ := hrel
    have HRG := Lib.hid hrg
    have HLF := Lib.hid hLf
    have HBL := Lib.hid hbel
    clear hrg hLf hbel
    go_wp2_with (first
      | (at_next; refine wpList_next_ranges_ii _ rfl _ rfl 3 3 .i64 .i64 keyedInt Try.underlying3 Try.underlying3 b w1.heap.size K _ _ _ rfl HRG.out ?_ ?_))
    · -- NOTHING IS LEFT
      intro _ hl0
      have hcoll := HLF.out.collected HF.out hl0
      have hown := HRG.out.owns
      have hperm := hcoll.perm hown keyedInt Try.underlying3 hl0
      have hsize : Maps.size D = L + 1 := by
        have h1 := hperm.length_eq
        rw [cycL_length, HL.out] at h1
        obtain ⟨es, hD, _⟩ := hown.entries keyedInt
        subst hD
        rw [h1]
        simp [intKeys, size_eq]
      have HPM := Lib.hid hperm
      have HO2 := Lib.hid hown
      have hbw : b < wr.heap.size := hown.lt
      have e0 := (HBL.out.cell (p := ⟨w.heap.size, 0, none⟩) (Nat.lt_succ_self _)).trans c0
      have e1 := (HBL.out.cell (p := ⟨w.heap.size, 1, none⟩) (Nat.lt_succ_self _)).trans c1
      have hzr : w.heap.size < wr.heap.size := Nat.lt_of_lt_of_le hz HBL.out.size
      have HSZ := Lib.hid hsize
      clear hcoll hown hperm hl0 c0 c1 hsize
      go_wp2_with (go_at_call 81; refine (keysA_any _ _).mono ?_; rintro e w2 ⟨rfl, rfl⟩)
      refine (collectA_any wr.heap.size b K D _ (by simp) (by go_simp) (HO2.out.alloc _) (by rw [HSZ.out]; omega)).mono ?_
      rintro e w3 ⟨v, ss, rfl, hpm, hrow, hb3⟩
      have hss : ss.Perm ((List.range (L + 1)).map fun (j : Nat) => itr (nx t p) (i + j) n) := by
        have := hpm.trans HPM.out.symm
        rwa [cycL, HL.out] at this
      have hlen : ss.length = L + 1 := by rw [hss.length_eq]; simp
      have hbest : best false (fun j => ss.getD j 0) L = x := by
        have := best_perm (a := fun (j : Nat) => itr (nx t p) (i + j) n) hss
        rw [show ss.length - 1 = L by omega] at this
        rw [this, ← HX.out]
        unfold best leastJ
        rw [show K - i - 1 = L by have := HL.out; omega]
      rcases hrow.cases with ⟨_, rfl⟩ | ⟨g, cap, rfl, hg1, hg2, hml, hcells⟩
      · simp at hlen
      have HC : Hid (∀ j, j ≤ L → w3.cell? ⟨g, j, none⟩ = some (.int .i64 ((fun j => ss.getD j 0) j))) := Lib.hid (fun j hj => (hcells j (by omega)).1)
      have HBE := Lib.hid hbest
      have hbb3 : Below wr.heap.size wr w3 := ((Below.refl _ wr).alloc (Nat.le_refl _) _).trans (hb3.mono (by simp))
      have HB3 := Lib.hid hbb3
      have d0 := kept_cell hbb3 hzr e0
      have d1 := kept_cell hbb3 hzr e1
      have HO3 := Lib.hid (ownsMap_below HO2.out hbw hbb3)
      rw [hlen]
      clear hpm hrow hb3 hss hlen hbest hcells hml hg1 hg2 hbb3 e0 e1
      go_wp2_with fail
      refine (min_any (fun j => ss.getD j 0) L g cap _ (by omega) HC.out).mono ?_
      rintro e w4 ⟨rfl, rfl⟩
      rw [HBE.out]
      have hsize2 : Maps.size D = L + 1 := HSZ.out
      go_wp2_with (first
        | (at_len; refine wpList_len_own _ rfl _ 88 rfl 3 3 Try.underlying88 (plainElem (H := Unit) Try.prog 3) b K _ rfl HO3.out ?_))
      refine (HPT.out _).mono ?_
      rintro e w5 ⟨v5, rfl, hrow5, hb5⟩
      have hall : Below w.heap.size w w5 := (((HB1.out.trans (HBL.out.mono (Nat.le_succ _) |>.mono (Nat.le_refl _)))).trans (HB3.out.mono (Nat.le_of_lt hzr))).trans (hb5.mono (Nat.le_trans (Nat.le_of_lt hzr) HB3.out.size))
      have HALL := Lib.hid hall
      have hrow6 : IntsAt w5 w.heap.size v5 (cycT (nx t p) n K i) := ownsRow_base hrow5 (Nat.le_trans (Nat.le_of_lt hzr) HB3.out.size)
      have HROW := Lib.hid hrow6
      clear hrow5 hb5 hall hrow6
      go_wp2_with fail
      go_ret3
      refine ⟨v5, ?_, ?_, HALL.out⟩
      · rw [ldA_some HH.out, HH.out]; rfl
      · rw [cyL_some HH.out]; exact HROW.out
    · -- AN ENTRY HAS COME
      intro y c w2 cnt1 hwx hwc hlx hat hrg1 hlt hg1 hs1 hen
      obtain ⟨j, hjK, rfl, rfl⟩ := HLF.out.at hat
      have HRG1 := Lib.hid hrg1
      have HG1 := Lib.hid hg1
      have HLT := Lib.hid hlt
      have HKEY := Lib.hid (keyOf_int_mk (P := Try.prog) Try.underlying3 hwx)
      have hji : (j : Int) ≤ 1000 := by have := HF.out.le; omega
      have hbel1 : Below (w.heap.size + 1) w1 w2 := HBL.out.grown hg1 (Nat.le_trans hz HBL.out.size) (fun k e => by cases e; omega)
      have HBL1 := Lib.hid hbel1
      obtain ⟨z, hzz⟩ : ∃ z, itr (nx t p) j n = z := ⟨_, rfl⟩
      rw [hzz] at hen HRG1 HKEY ⊢
      have HZ := Lib.hid hzz
      clear hrg1 hg1 hlt hwx hwc hlx hat hs1 hbel1 hzz
      by_cases hji2 : j < i
      · have hlt2 : (j : Int) < (i : Int) := by omega
        go_wp2_with (first
          | (at_delete; refine wpList_delete_ranges _ rfl _ _ 88 3 rfl 3 keyedInt Try.underlying88 _ b w1.heap.size K _ _ _ rfl HRG1.out _ _ rfl HKEY.out ?_; intro w4 cnt2 hrg2 hle hturn
             rw [strike_twice] at hrg2
             have HRG2 := Lib.hid hrg2
             have HLE := Lib.hid hle
             have HTU := Lib.hid hturn.grown
             clear hrg2 hle hturn
             go_frame))
        go_roundw
        case rel =>
          have hL2 := HLF.out.struck HF.out hji2
          rw [HZ.out] at hL2
          exact ⟨_, cnt2, _, HRG2.out, hL2, HBL1.out.grown HTU.out (Nat.le_trans hz HBL1.out.size) (fun k e => by cases e; omega)⟩
        case measure => rw [HRG2.out.left_eq, HRG.out.left_eq]; have := HLE.out; have := HLT.out; omega
      · have hlt2 : ¬ ((j : Int) < (i : Int)) := by omega
        go_wp2_with fail
        go_roundw
        case rel =>
          have hL2 := HLF.out.stays HF.out (by omega) hjK
          rw [HZ.out] at hL2
          exact ⟨_, cnt1, _, HRG1.out, hL2, HBL1.out⟩
        case measure => rw [HRG1.out.left_eq, HRG.out.left_eq]; exact HLT.out
end Go.Proofs.Ytponmblponfdaaa
