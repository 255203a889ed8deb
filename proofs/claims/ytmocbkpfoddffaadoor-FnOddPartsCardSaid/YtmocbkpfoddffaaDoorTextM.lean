/-
  'MapText' of both, and the walk of its law.
-/
import Derived.Test.YtmocbkpfoddffaaDoorText
import Derived.Deep.RegionWith
namespace Go.Proofs.YtmocbkpfoddffaaDoor
open Go.RowKit
set_option linter.unusedVariables false

/-- The text of a map. -/
def mtx (t p : Int) : List UInt8 := [dig t, 120] ++ sgd p
theorem mtx_neg {t p : Int} (h : p < 0) : mtx t p = [dig t, 120] ++ [45, dig (-p)] := by rw [mtx, sgd, if_pos h]
theorem mtx_pos {t p : Int} (h : ¬ p < 0) : mtx t p = [dig t, 120, 43] ++ [dig p] := by rw [mtx, sgd, if_neg h]; rfl
theorem sgd_len (p : Int) : (sgd p).length = 2 := by unfold sgd; split <;> rfl
theorem goodB_dig {t p : Int} (h : goodB t p = true) : 1 ≤ t ∧ t ≤ 9 ∧ -9 ≤ p ∧ p ≤ 9 ∧ p ≠ 0 := by
  have := goodB_iff.1 h
  omega
/-- What MapText comes to. -/
def mpt (t p : Int) : ByteArray := if goodB t p = true then byt (mtx t p) else byt []
theorem ret_txt {x : ByteArray} {y z : Bool} {s : ByteArray} (h : x = s) (h' : y = z) : Ending.returned (.tuple #[.string s, .bool z]) = .returned (.tuple #[.string x, .bool y]) := by rw [h, h']

set_option maxHeartbeats 1000000 in
theorem mpText_any (t p : Int) (h : goodB t p = true) (w : World) :
    Calls Tryd.prog 42 #[.agg #[.int .i64 t, .int .i64 p]] w fun e w' => e = .returned (.string (byt (mtx t p))) ∧ Below w.heap.size w w' := by
  obtain ⟨t1, t9, p1, p9, p0⟩ := goodB_dig h
  have hadd : ∀ w, (Op.stringOp .add (byt [dig t]) ⟨#[120]⟩).run Tryd.prog w = .ok (.string (byt [dig t, 120])) w := fun w => byt_add [dig t] [120] (by simp) w
  clear h
  by_cases hn : p < 0
  · have HS := Lib.hid (mtx_neg (t := t) hn)
    have hn' : ¬ 0 < p := by omega
    have hadd2 : ∀ w, (Op.stringOp .add (byt [dig t, 120]) (byt [45, dig (-p)])).run Tryd.prog w = .ok (.string (byt ([dig t, 120] ++ [45, dig (-p)]))) w := fun w => byt_add [dig t, 120] [45, dig (-p)] (by simp) w
    have HI := Lib.hid (fun w => l1Int_any p p1 p9 p0 w)
    rw [if_pos hn] at HI
    go_enter Tryd.func42, Tryd.ntmps42
    go_wp2_with fail
    refine (l1Num_any t t1 t9 _).mono ?_
    rintro e w1 ⟨rfl, hb1⟩
    obtain ⟨c0, c1, hz, hb⟩ := map_block hb1
    clear hb1
    go_wp2_with fail
    refine (HI.out _).mono ?_
    rintro e w2 ⟨rfl, hb2⟩
    have hbb := hb.trans (hb2.mono (Nat.le_of_lt hz))
    clear c0 c1 hb2 hb
    go_wp2_with fail
    go_ret
    exact ⟨by rw [HS.out]; rfl, hbb⟩
  · have HS := Lib.hid (mtx_pos (t := t) hn)
    have hn' : 0 < p := by omega
    have hadd1 : ∀ w, (Op.stringOp .add (byt [dig t, 120]) ⟨#[43]⟩).run Tryd.prog w = .ok (.string (byt [dig t, 120, 43])) w := fun w => byt_add [dig t, 120] [43] (by simp) w
    have hadd2 : ∀ w, (Op.stringOp .add (byt [dig t, 120, 43]) (byt [dig p])).run Tryd.prog w = .ok (.string (byt ([dig t, 120, 43] ++ [dig p]))) w := fun w => byt_add [dig t, 120, 43] [dig p] (by simp) w
    have HI := Lib.hid (fun w => l1Int_any p p1 p9 p0 w)
    rw [if_neg hn] at HI
    go_enter Tryd.func42, Tryd.ntmps42
    go_wp2_with fail
    refine (l1Num_any t t1 t9 _).mono ?_
    rintro e w1 ⟨rfl, hb1⟩
    obtain ⟨c0, c1, hz, hb⟩ := map_block hb1
    clear hb1
    go_wp2_with fail
    refine (HI.out _).mono ?_
    rintro e w2 ⟨rfl, hb2⟩
    have hbb := hb.trans (hb2.mono (Nat.le_of_lt hz))
    clear c0 c1 hb2 hb
    go_wp2_with fail
    go_ret
    exact ⟨by rw [HS.out]; rfl, hbb⟩

theorem sMapText (t p : Int) (w : World) :
    Calls Tryd.prog 16 #[.agg #[.int .i64 t, .int .i64 p]] w fun e w' => e = .returned (.tuple #[.string (mpt t p), .bool (goodB t p)]) ∧ Below w.heap.size w w' := by
  by_cases h : goodB t p = true
  · have HF := Lib.hid (show mpt t p = byt (mtx t p) by rw [mpt, if_pos h])
    have HH := Lib.hid h
    have HM := Lib.hid (fun w => mpGood_any t p w)
    rw [h] at HM
    clear h
    go_enter Tryd.func16, Tryd.ntmps16
    go_wp2_with fail
    refine (HM.out _).mono ?_
    rintro e w1 ⟨rfl, hb1⟩
    obtain ⟨c0, c1, hz, hb⟩ := map_block hb1
    clear hb1
    go_wp2_with fail
    refine (mpText_any t p HH.out _).mono ?_
    rintro e w2 ⟨rfl, hb2⟩
    have hbb := hb.trans (hb2.mono (Nat.le_of_lt hz))
    clear c0 c1 hb2 hb
    go_wp2_with fail
    go_ret2
    exact ⟨ret_txt HF.out HH.out, hbb⟩
  · have h' : goodB t p = false := by simpa using h
    have HF := Lib.hid (show mpt t p = byt [] by rw [mpt, if_neg h])
    have HH := Lib.hid h'
    have HM := Lib.hid (fun w => mpGood_any t p w)
    rw [h'] at HM
    clear h h'
    go_enter Tryd.func16, Tryd.ntmps16
    go_wp2_with fail
    refine (HM.out _).mono ?_
    rintro e w1 ⟨rfl, hb1⟩
    obtain ⟨c0, c1, hz, hb⟩ := map_block hb1
    clear hb1
    go_wp2_with fail
    go_ret2
    exact ⟨ret_txt HF.out HH.out, hb⟩

set_option maxHeartbeats 1000000 in
theorem iMapText (t p : Int) (w : World) (htab : Tab w) :
    Calls Tryd.prog 15 #[.agg #[.int .i64 t, .int .i64 p]] w fun e w' => e = .returned (.tuple #[.string (mpt t p), .bool (goodB t p)]) ∧ Below w.heap.size w w' := by
  have HT := Lib.hid htab
  clear htab
  by_cases h : goodB t p = true
  · have HF := Lib.hid (show mpt t p = byt ([dig t, 120] ++ sgd p) by rw [mpt, if_pos h]; rfl)
    have HH := Lib.hid h
    have HM := Lib.hid (fun w => isMap_any t p w)
    rw [h] at HM
    obtain ⟨t1, t9, p1, p9, p0⟩ := goodB_dig h
    have hadd : ∀ w, (Op.stringOp .add (byt [dig t]) ⟨#[120]⟩).run Tryd.prog w = .ok (.string (byt [dig t, 120])) w := fun w => byt_add [dig t] [120] (by simp) w
    have hadd2 : ∀ w, (Op.stringOp .add (byt [dig t, 120]) (byt (sgd p))).run Tryd.prog w = .ok (.string (byt ([dig t, 120] ++ sgd p))) w := fun w => byt_add [dig t, 120] (sgd p) (by rw [sgd_len]; simp) w
    clear h
    go_enter Tryd.func15, Tryd.ntmps15
    go_wp2_with fail
    refine (HM.out _).mono ?_
    rintro e w1 ⟨rfl, hb1⟩
    obtain ⟨c0, c1, hz, hb⟩ := map_block hb1
    clear hb1
    go_wp2_with fail
    go_region_with (first
      | (go_at_call 40; refine (itoa_any t t1 t9 _).mono ?_; rintro e w2 ⟨rfl, rfl⟩)
      | (go_at_call 41; refine (signed_any p p1 p9 p0 _ (tab_below HT.out (by first | exact hb | exact hb.drew))).mono ?_; rintro e w3 ⟨rfl, hb3⟩))
    all_goals
      go_wp2_with fail
      go_ret2
      exact ⟨ret_txt HF.out HH.out, by first | exact hb.trans (hb3.mono (Nat.le_of_lt hz)) | exact hb.drew.trans (hb3.mono (Nat.le_of_lt hz))⟩
  · have h' : goodB t p = false := by simpa using h
    have HF := Lib.hid (show mpt t p = byt [] by rw [mpt, if_neg h])
    have HH := Lib.hid h'
    have HM := Lib.hid (fun w => isMap_any t p w)
    rw [h'] at HM
    clear h h'
    go_enter Tryd.func15, Tryd.ntmps15
    go_wp2_with fail
    refine (HM.out _).mono ?_
    rintro e w1 ⟨rfl, hb1⟩
    obtain ⟨c0, c1, hz, hb⟩ := map_block hb1
    clear hb1
    go_wp2_with fail
    go_ret2
    exact ⟨ret_txt HF.out HH.out, hb⟩

end Go.Proofs.YtmocbkpfoddffaaDoor
