/-
  THE WALK OF THE LAW 'CountOfWords'.
-/
import Derived.Test.YteekglabcimfpaaDoorCountI
import Derived.Test.YteekglabcimfpaaDoorArgOpen
namespace Go.Proofs.YteekglabcimfpaaDoor
open Go.RowKit
set_option linter.unusedVariables false

set_option maxHeartbeats 2000000 in
theorem fnExactCountOfWords_law (t p : Int) (v : Value) (xs : List Int) (k : Int) (hk : (Lit.int .i64 k).wf = true) (w : World) (harg : ArgI w v xs) (htab : Tab w) :
    Calls Tryd.prog 8 #[.agg #[.int .i64 t, .int .i64 p], v, .int .i64 k] w fun e w' => e = .returned (.bool true) ∧ Below w.heap.size w w' := by
  have HT := Lib.hid htab
  have HARG := Lib.hid harg
  obtain ⟨a, cap, rfl, hz0⟩ := harg
  clear htab hz0
  by_cases hxs : xs.length ≤ 1048576
  case neg =>
    have hys : 1048576 < (xs.length : Int) := by omega
    generalize xs.length = K at hys ⊢
    go_enter Tryd.func8, Tryd.ntmps8
    go_wp2_with fail
    go_ret
    exact ⟨rfl, (Below.refl _ _).alloc (Nat.le_refl _) _⟩
  have hys : ¬ (1048576 < (xs.length : Int)) := by omega
  have HLEN : Hid (xs.length ≤ 1000000000000) := Lib.hid (by omega)
  have HC := Lib.hid (fun v w h => toIntS_any xs v w hxs h)
  have HS := Lib.hid (fun v w h => sCount t p xs k v w hxs h)
  have HI := Lib.hid (fun v w ht h => iCount t p xs k v w ht hxs h)
  generalize cntC t p xs k = r at HS HI
  generalize askC t p xs k = ok at HS HI
  clear hxs
  obtain ⟨K, hK⟩ : ∃ K, K = xs.length := ⟨_, rfl⟩
  have HK := Lib.hid hK
  rw [← hK] at hys ⊢
  have HARG : Hid (ArgI w (.slice a K cap) xs) := Lib.hid (by rw [hK]; exact HARG.out)
  clear hK
  go_enter Tryd.func8, Tryd.ntmps8
  go_wp2_with fail
  refine (toMap_any t p _).mono ?_
  rintro e w1 ⟨rfl, hb1⟩
  obtain ⟨c0, c1, hz, hb⟩ := map_block hb1
  clear hb1
  go_wp2_with fail
  refine (HC.out _ _ (HARG.out.kept hb (Nat.le_refl _))).mono ?_
  rintro e w2 ⟨v0, rfl, hr2, hb2⟩
  have d0 := kept_cell hb2 hz c0
  have d1 := kept_cell hb2 hz c1
  have hbb := hb.trans (hb2.mono (Nat.le_of_lt hz))
  have hz2 := Nat.lt_of_lt_of_le hz hb2.size
  have R2 := Lib.hid hr2.isIn
  clear c0 c1 hb2 hb hr2
  go_wp2_with fail
  refine (HS.out _ _ R2.out).mono ?_
  rintro e w3 ⟨rfl, hb3⟩
  have k0 := kept_cell hb3 hz2 d0
  have k1 := kept_cell hb3 hz2 d1
  have hbc := hbb.trans (hb3.mono (Nat.le_of_lt hz2))
  have hz3 := Nat.lt_of_lt_of_le hz2 hb3.size
  clear d0 d1 hb3 hbb
  go_wp2_with fail
  refine (HC.out _ _ (HARG.out.kept hbc (Nat.le_refl _))).mono ?_
  rintro e w4 ⟨v1, rfl, hr4, hb4⟩
  have d0 := kept_cell hb4 hz3 k0
  have d1 := kept_cell hb4 hz3 k1
  have hbd := hbc.trans (hb4.mono (Nat.le_of_lt hz3))
  have hz4 := Nat.lt_of_lt_of_le hz3 hb4.size
  have R4 := Lib.hid hr4.isIn
  clear k0 k1 hb4 hbc hr4
  go_wp2_with fail
  refine (toMap_any t p _).mono ?_
  rintro e w5 ⟨rfl, hb5⟩
  have hbe := hbd.trans (hb5.mono (Nat.le_of_lt hz4))
  have hz5 := Nat.lt_of_lt_of_le hz4 hb5.size
  have R5 := Lib.hid (R4.out.kept hb5)
  clear d0 d1 hb5 hbd
  go_wp2_with fail
  refine (HI.out _ _ (tab_below HT.out hbe (Nat.le_refl _)) R5.out).mono ?_
  rintro e w6 ⟨rfl, hb6⟩
  have hbf := hbe.trans (hb6.mono (Nat.le_of_lt hz5))
  have hz6 := Nat.lt_of_lt_of_le hz5 hb6.size
  have R6 := Lib.hid (R5.out.kept hb6)
  clear hb6 hbe
  go_wp2_with fail
  refine (HC.out _ _ (HARG.out.kept hbf (Nat.le_refl _))).mono ?_
  rintro e w7 ⟨v2, rfl, hr7, hb7⟩
  have hbg := hbf.trans (hb7.mono (Nat.le_of_lt hz6))
  have hz7 := Nat.lt_of_lt_of_le hz6 hb7.size
  have R7 := Lib.hid (R6.out.kept hb7)
  have S7 := Lib.hid hr7.isIn
  clear hb7 hbf hr7
  go_wp2_with fail
  refine (eqIntS_any xs v1 v2 _ HLEN.out R7.out S7.out).mono ?_
  rintro e w8 ⟨rfl, hb8⟩
  have hbh := hbg.trans (hb8.mono (Nat.le_of_lt hz7))
  clear hb8 hbg
  go_wp2_with fail
  go_ret
  exact ⟨rfl, hbh⟩
end Go.Proofs.YteekglabcimfpaaDoor
