/-
  THE WALK OF THE LAW 'FallenResidues' (gen_lawfr.py).
-/
import Derived.Test.YtgobjobppajkbaaDoorFrI
namespace Go.Proofs.YtgobjobppajkbaaDoor
open Go.RowKit
set_option linter.unusedVariables false

set_option maxHeartbeats 2000000 in
theorem fnExactFallenResidues_law (t p : Int) (n : Int) (hn : (Lit.int .i64 n).wf = true) (w : World) (htab : Tab w) :
    Calls Tryd.prog 3 #[.agg #[.int .i64 t, .int .i64 p], .int .i64 n] w fun e w' => e = .returned (.bool true) ∧ Below w.heap.size w w' := by
  have HLEN := Lib.hid (frA_len t p n)
  have HT := Lib.hid htab
  clear htab
  generalize hxs : frA t p n = xs at HLEN
  generalize hok : frB t p n = ok
  have CS : ∀ W, Calls Tryd.prog 8 #[.agg #[.int .i64 t, .int .i64 p], .int .i64 n] W (RetTris xs ok W) := by
    intro W; have := sFallenResidues t p n W; rw [hxs, hok] at this; exact this
  have CI : ∀ W, Tab W → Calls Tryd.prog 10 #[.agg #[.int .i64 t, .int .i64 p], .int .i64 n] W (RetTris xs ok W) := by
    intro W hT; have := iFallenResidues t p n W hT; rw [hxs, hok] at this; exact this
  have HS := Lib.hid CS
  have HI := Lib.hid CI
  clear CS CI hxs hok
  obtain ⟨L, hL⟩ : ∃ L : Nat, xs.length = L := ⟨_, rfl⟩
  have HL := Lib.hid hL
  have hd : decide (3 * (L : Int) + 1 < 0) = false := by simp; omega
  clear hL
  go_enter Tryd.func3, Tryd.ntmps3
  go_wp2_with fail
  refine (toMap_any t p _).mono ?_
  rintro e w1 ⟨rfl, hb1⟩
  obtain ⟨c0, c1, hz, hb⟩ := map_block hb1
  clear hb1
  go_wp2_with fail
  refine (HS.out _).mono ?_
  rintro e w2 ⟨v0, rfl, hr2, hb2⟩
  have d0 := kept_cell hb2 hz c0
  have d1 := kept_cell hb2 hz c1
  have hz2 := Nat.lt_of_lt_of_le hz hb2.size
  have hbb := hb.trans (hb2.mono (Nat.le_of_lt hz))
  have R2 := Lib.hid hr2
  clear c0 c1 hb2 hb hr2
  go_wp2_with fail
  refine (toMap_any t p _).mono ?_
  rintro e w3 ⟨rfl, hb3⟩
  have k0 := kept_cell hb3 hz2 d0
  have k1 := kept_cell hb3 hz2 d1
  have hbc := hbb.trans (hb3.mono (Nat.le_of_lt hz2))
  have hz3 := Nat.lt_of_lt_of_le hz2 hb3.size
  have R3 := Lib.hid (R2.out.kept hb3)
  clear d0 d1 hb3 hbb
  go_wp2_with fail
  refine (HI.out _ (tab_below HT.out hbc (Nat.le_refl _))).mono ?_
  rintro e w4 ⟨v1, rfl, hr4, hb4⟩
  have R4 := Lib.hid (R3.out.kept hb4)
  have S4 := Lib.hid hr4
  have B4 := Lib.hid hb4
  have d0 := kept_cell hb4 hz3 k0
  have d1 := kept_cell hb4 hz3 k1
  have hz4 := Nat.lt_of_lt_of_le hz3 hb4.size
  clear hb4 hr4
  go_wp2_with fail
  refine (eqIntSS_tris xs v1 v0 _ _ _ HLEN.out S4.out R4.out).mono ?_
  rintro e w5 ⟨rfl, hb5⟩
  have S5 := Lib.hid (S4.out.kept hb5)
  have B5 := Lib.hid (B4.out.trans (hb5.mono B4.out.size))
  clear hb5 d0 d1
  go_wp2_with fail
  refine (markIntSS_tris xs v1 _ _ HLEN.out B5.out.size S5.out).mono ?_
  rw [HL.out]
  rintro e w6 ⟨rfl, hb6, hm6⟩
  have B6 := Lib.hid (B5.out.trans hb6)
  have e0 := kept_cell B6.out hz3 k0
  have e1 := kept_cell B6.out hz3 k1
  have hz6 := Nat.lt_of_lt_of_le hz3 B6.out.size
  have R6 := Lib.hid (R3.out.kept B6.out)
  have M6 := Lib.hid hm6
  have hbf := hbc.trans (B6.out.mono (Nat.le_of_lt hz3))
  have HLL : Hid (L ≤ 5000) := Lib.hid (by rw [← HL.out]; exact HLEN.out)
  clear hb6 hm6 k0 k1 hbc
  go_wp2_with fail
  refine (heldIntSS_tris L v1 _ _ HLL.out M6.out).mono ?_
  rintro e w7 ⟨rfl, rfl⟩
  go_wp2_with fail
  refine (toMap_any t p _).mono ?_
  rintro e w7 ⟨rfl, hb7⟩
  have hbg := hbf.trans (hb7.mono (Nat.le_of_lt hz6))
  have hz7 := Nat.lt_of_lt_of_le hz6 hb7.size
  have R7 := Lib.hid (R6.out.kept hb7)
  have M7 := Lib.hid (M6.out.kept hb7)
  clear e0 e1 hb7 hbf
  go_wp2_with fail
  refine (HI.out _ (tab_below HT.out hbg (Nat.le_refl _))).mono ?_
  rintro e w8 ⟨v2, rfl, hr8, hb8⟩
  have hbh := hbg.trans (hb8.mono (Nat.le_of_lt hz7))
  have hz8 := Nat.lt_of_lt_of_le hz7 hb8.size
  have R8 := Lib.hid (R7.out.kept hb8)
  have M8 := Lib.hid (M7.out.kept hb8)
  have S8 := Lib.hid hr8
  clear hb8 hbg hr8
  go_wp2_with fail
  refine (eqIntSS_tris xs v2 v0 _ _ _ HLEN.out S8.out R8.out).mono ?_
  rintro e w9 ⟨rfl, hb9⟩
  have hbi := hbh.trans (hb9.mono (Nat.le_of_lt hz8))
  have M9 := Lib.hid (M8.out.kept hb9)
  clear hb9 hbh
  go_wp2_with fail
  refine (heldIntSS_tris L v1 _ _ HLL.out M9.out).mono ?_
  rintro e w10 ⟨rfl, rfl⟩
  go_wp2_with fail
  go_ret
  exact ⟨rfl, hbi⟩
end Go.Proofs.YtgobjobppajkbaaDoor
