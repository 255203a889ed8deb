/-
  THE WALK OF THE LAW 'KeepsToResidue'.
-/
import Derived.Test.YtencblbkbalmcaaDoorKpI
namespace Go.Proofs.YtencblbkbalmcaaDoor
open Go.RowKit
set_option linter.unusedVariables false

set_option maxHeartbeats 1000000 in
theorem fnExactKeepsToResidue_law (t p : Int) (n : Int) (k : Int) (hn : (Lit.int .i64 n).wf = true) (hk : (Lit.int .i64 k).wf = true) (w : World) (htab : Tab w) :
    Calls Tryd.prog 8 #[.agg #[.int .i64 t, .int .i64 p], .int .i64 n, .int .i64 k] w fun e w' => e = .returned (.bool true) ∧ Below w.heap.size w w' := by
  have HT := Lib.hid htab
  clear htab
  go_enter Tryd.func8, Tryd.ntmps8
  go_wp2_with fail
  refine (toMap_any t p _).mono ?_
  rintro e w1 ⟨rfl, hb1⟩
  obtain ⟨c0, c1, hz, hb⟩ := map_block hb1
  clear hb1
  go_wp2_with fail
  refine (sKeepsToResidue t p n k _).mono ?_
  rintro e w2 ⟨rfl, hb2⟩
  have d0 := kept_cell hb2 hz c0
  have d1 := kept_cell hb2 hz c1
  have hz2 := Nat.lt_of_lt_of_le hz hb2.size
  have hbb := hb.trans (hb2.mono (Nat.le_of_lt hz))
  clear c0 c1 hb2 hb hz
  go_wp2_with fail
  refine (toMap_any t p _).mono ?_
  rintro e w3 ⟨rfl, hb3⟩
  have hbc := hbb.trans (hb3.mono (Nat.le_of_lt hz2))
  have hz3 := Nat.lt_of_lt_of_le hz2 hb3.size
  clear d0 d1 hb3 hbb
  go_wp2_with fail
  refine (iKeepsToResidue t p n k _ (tab_below HT.out hbc (Nat.le_refl _))).mono ?_
  rintro e w4 ⟨rfl, hb4⟩
  have hbd := hbc.trans (hb4.mono (Nat.le_of_lt hz3))
  clear hb4 hbc
  go_wp2_with fail
  go_ret
  exact ⟨rfl, hbd⟩
end Go.Proofs.YtencblbkbalmcaaDoor
