/-
  THE WALKS OF STAGE 5's LAWS OF NUMBERS AND OF LISTS.
-/
import Derived.Test.YtklbejejadmehaaRecN
import Derived.Test.YtklbejejadmehaaMean
import Derived.Test.YtklbejejadmehaaWith
import Derived.Test.YtklbejejadmehaaRun
import Derived.Test.YtklbejejadmehaaLists
namespace Go.Proofs.Ytklbejejadmehaa
open Go.RowKit
set_option linter.unusedVariables false

theorem tabA_len2 (g : Int → Int → Int → Int) (t p k : Int) : (tabA g t p k).length ≤ 1000000000000 := Nat.le_trans (tabA_len g t p k) (by decide)

set_option maxHeartbeats 1000000 in
theorem fnExactStepsNeeded_law (t p : Int) (n : Int) (hn : (Lit.int .i64 n).wf = true) (w : World) :
    Calls Try.prog 3 #[.agg #[.int .i64 t, .int .i64 p], .int .i64 n] w fun e w' => e = .returned (.bool true) ∧ Below w.heap.size w w' := by
  go_enter Try.func3, Try.ntmps3
  go_wp2_with fail
  refine (toMap_any t p _).mono ?_
  rintro e w1 ⟨rfl, hb1⟩
  obtain ⟨c0, c1, hz, hb⟩ := map_block hb1
  clear hb1
  go_wp2_with fail
  refine (sStepsNeeded t p n _).mono ?_
  rintro e w2 ⟨rfl, hb2⟩
  have d0 := kept_cell hb2 hz c0
  have d1 := kept_cell hb2 hz c1
  have hz2 := Nat.lt_of_lt_of_le hz hb2.size
  have hbb := hb.trans (hb2.mono (Nat.le_of_lt hz))
  clear c0 c1 hb2 hb hz
  go_wp2_with fail
  refine (toMap_any t p _).mono ?_
  rintro e w3 ⟨rfl, hb3⟩
  have hbc := hbb.trans (hb3.mono (Nat.le_of_lt hz2))
  have hz3 := Nat.lt_of_lt_of_le hz2 hb3.size
  clear d0 d1 hb3 hbb
  go_wp2_with fail
  refine (iStepsNeeded t p n _).mono ?_
  rintro e w4 ⟨rfl, hb4⟩
  have hbd := hbc.trans (hb4.mono (Nat.le_of_lt hz3))
  clear hb4 hbc
  go_wp2_with fail
  go_ret
  exact ⟨rfl, hbd⟩

set_option maxHeartbeats 1000000 in
theorem fnExactSlowestUpTo_law (t p : Int) (n : Int) (hn : (Lit.int .i64 n).wf = true) (w : World) :
    Calls Try.prog 4 #[.agg #[.int .i64 t, .int .i64 p], .int .i64 n] w fun e w' => e = .returned (.bool true) ∧ Below w.heap.size w w' := by
  go_enter Try.func4, Try.ntmps4
  go_wp2_with fail
  refine (toMap_any t p _).mono ?_
  rintro e w1 ⟨rfl, hb1⟩
  obtain ⟨c0, c1, hz, hb⟩ := map_block hb1
  clear hb1
  go_wp2_with fail
  refine (sSlowestUpTo t p n _).mono ?_
  rintro e w2 ⟨rfl, hb2⟩
  have d0 := kept_cell hb2 hz c0
  have d1 := kept_cell hb2 hz c1
  have hz2 := Nat.lt_of_lt_of_le hz hb2.size
  have hbb := hb.trans (hb2.mono (Nat.le_of_lt hz))
  clear c0 c1 hb2 hb hz
  go_wp2_with fail
  refine (toMap_any t p _).mono ?_
  rintro e w3 ⟨rfl, hb3⟩
  have hbc := hbb.trans (hb3.mono (Nat.le_of_lt hz2))
  have hz3 := Nat.lt_of_lt_of_le hz2 hb3.size
  clear d0 d1 hb3 hbb
  go_wp2_with fail
  refine (iSlowestUpTo t p n _).mono ?_
  rintro e w4 ⟨rfl, hb4⟩
  have hbd := hbc.trans (hb4.mono (Nat.le_of_lt hz3))
  clear hb4 hbc
  go_wp2_with fail
  go_ret
  exact ⟨rfl, hbd⟩

set_option maxHeartbeats 1000000 in
theorem fnExactMeanSteps_law (t p : Int) (n : Int) (hn : (Lit.int .i64 n).wf = true) (w : World) :
    Calls Try.prog 7 #[.agg #[.int .i64 t, .int .i64 p], .int .i64 n] w fun e w' => e = .returned (.bool true) ∧ Below w.heap.size w w' := by
  go_enter Try.func7, Try.ntmps7
  go_wp2_with fail
  refine (toMap_any t p _).mono ?_
  rintro e w1 ⟨rfl, hb1⟩
  obtain ⟨c0, c1, hz, hb⟩ := map_block hb1
  clear hb1
  go_wp2_with fail
  refine (sMeanSteps t p n _).mono ?_
  rintro e w2 ⟨rfl, hb2⟩
  have d0 := kept_cell hb2 hz c0
  have d1 := kept_cell hb2 hz c1
  have hz2 := Nat.lt_of_lt_of_le hz hb2.size
  have hbb := hb.trans (hb2.mono (Nat.le_of_lt hz))
  clear c0 c1 hb2 hb hz
  go_wp2_with fail
  refine (toMap_any t p _).mono ?_
  rintro e w3 ⟨rfl, hb3⟩
  have hbc := hbb.trans (hb3.mono (Nat.le_of_lt hz2))
  have hz3 := Nat.lt_of_lt_of_le hz2 hb3.size
  clear d0 d1 hb3 hbb
  go_wp2_with fail
  refine (iMeanSteps t p n _).mono ?_
  rintro e w4 ⟨rfl, hb4⟩
  have hbd := hbc.trans (hb4.mono (Nat.le_of_lt hz3))
  clear hb4 hbc
  go_wp2_with fail
  go_ret
  exact ⟨rfl, hbd⟩

set_option maxHeartbeats 1000000 in
theorem fnExactLongestRun_law (t p : Int) (n : Int) (hn : (Lit.int .i64 n).wf = true) (w : World) :
    Calls Try.prog 9 #[.agg #[.int .i64 t, .int .i64 p], .int .i64 n] w fun e w' => e = .returned (.bool true) ∧ Below w.heap.size w w' := by
  go_enter Try.func9, Try.ntmps9
  go_wp2_with fail
  refine (toMap_any t p _).mono ?_
  rintro e w1 ⟨rfl, hb1⟩
  obtain ⟨c0, c1, hz, hb⟩ := map_block hb1
  clear hb1
  go_wp2_with fail
  refine (sLongestRun t p n _).mono ?_
  rintro e w2 ⟨rfl, hb2⟩
  have d0 := kept_cell hb2 hz c0
  have d1 := kept_cell hb2 hz c1
  have hz2 := Nat.lt_of_lt_of_le hz hb2.size
  have hbb := hb.trans (hb2.mono (Nat.le_of_lt hz))
  clear c0 c1 hb2 hb hz
  go_wp2_with fail
  refine (toMap_any t p _).mono ?_
  rintro e w3 ⟨rfl, hb3⟩
  have hbc := hbb.trans (hb3.mono (Nat.le_of_lt hz2))
  have hz3 := Nat.lt_of_lt_of_le hz2 hb3.size
  clear d0 d1 hb3 hbb
  go_wp2_with fail
  refine (iLongestRun t p n _).mono ?_
  rintro e w4 ⟨rfl, hb4⟩
  have hbd := hbc.trans (hb4.mono (Nat.le_of_lt hz3))
  clear hb4 hbc
  go_wp2_with fail
  go_ret
  exact ⟨rfl, hbd⟩

set_option maxHeartbeats 1000000 in
theorem fnExactSlowestFall_law (t p : Int) (n : Int) (hn : (Lit.int .i64 n).wf = true) (w : World) :
    Calls Try.prog 12 #[.agg #[.int .i64 t, .int .i64 p], .int .i64 n] w fun e w' => e = .returned (.bool true) ∧ Below w.heap.size w w' := by
  go_enter Try.func12, Try.ntmps12
  go_wp2_with fail
  refine (toMap_any t p _).mono ?_
  rintro e w1 ⟨rfl, hb1⟩
  obtain ⟨c0, c1, hz, hb⟩ := map_block hb1
  clear hb1
  go_wp2_with fail
  refine (sSlowestFall t p n _).mono ?_
  rintro e w2 ⟨rfl, hb2⟩
  have d0 := kept_cell hb2 hz c0
  have d1 := kept_cell hb2 hz c1
  have hz2 := Nat.lt_of_lt_of_le hz hb2.size
  have hbb := hb.trans (hb2.mono (Nat.le_of_lt hz))
  clear c0 c1 hb2 hb hz
  go_wp2_with fail
  refine (toMap_any t p _).mono ?_
  rintro e w3 ⟨rfl, hb3⟩
  have hbc := hbb.trans (hb3.mono (Nat.le_of_lt hz2))
  have hz3 := Nat.lt_of_lt_of_le hz2 hb3.size
  clear d0 d1 hb3 hbb
  go_wp2_with fail
  refine (iSlowestFall t p n _).mono ?_
  rintro e w4 ⟨rfl, hb4⟩
  have hbd := hbc.trans (hb4.mono (Nat.le_of_lt hz3))
  clear hb4 hbc
  go_wp2_with fail
  go_ret
  exact ⟨rfl, hbd⟩

set_option maxHeartbeats 1000000 in
theorem fnExactCountFallen_law (t p : Int) (n : Int) (s : Int) (hn : (Lit.int .i64 n).wf = true) (hs : (Lit.int .i64 s).wf = true) (w : World) :
    Calls Try.prog 11 #[.agg #[.int .i64 t, .int .i64 p], .int .i64 n, .int .i64 s] w fun e w' => e = .returned (.bool true) ∧ Below w.heap.size w w' := by
  go_enter Try.func11, Try.ntmps11
  go_wp2_with fail
  refine (toMap_any t p _).mono ?_
  rintro e w1 ⟨rfl, hb1⟩
  obtain ⟨c0, c1, hz, hb⟩ := map_block hb1
  clear hb1
  go_wp2_with fail
  refine (sCountFallen t p n s _).mono ?_
  rintro e w2 ⟨rfl, hb2⟩
  have d0 := kept_cell hb2 hz c0
  have d1 := kept_cell hb2 hz c1
  have hz2 := Nat.lt_of_lt_of_le hz hb2.size
  have hbb := hb.trans (hb2.mono (Nat.le_of_lt hz))
  clear c0 c1 hb2 hb hz
  go_wp2_with fail
  refine (toMap_any t p _).mono ?_
  rintro e w3 ⟨rfl, hb3⟩
  have hbc := hbb.trans (hb3.mono (Nat.le_of_lt hz2))
  have hz3 := Nat.lt_of_lt_of_le hz2 hb3.size
  clear d0 d1 hb3 hbb
  go_wp2_with fail
  refine (iCountFallen t p n s _).mono ?_
  rintro e w4 ⟨rfl, hb4⟩
  have hbd := hbc.trans (hb4.mono (Nat.le_of_lt hz3))
  clear hb4 hbc
  go_wp2_with fail
  go_ret
  exact ⟨rfl, hbd⟩

set_option maxHeartbeats 2000000 in
theorem fnExactStepsList_law (t p : Int) (n : Int) (hn : (Lit.int .i64 n).wf = true) (w : World) :
    Calls Try.prog 6 #[.agg #[.int .i64 t, .int .i64 p], .int .i64 n] w fun e w' => e = .returned (.bool true) ∧ Below w.heap.size w w' := by
  have HLEN := Lib.hid (tabA_len2 needN t p n)
  generalize hxs : tabA needN t p n = xs at HLEN
  generalize hok : askL t p n = ok
  have CS : ∀ W, Calls Try.prog 23 #[.agg #[.int .i64 t, .int .i64 p], .int .i64 n] W (RetInts xs ok W) := by
    intro W; have := sStepsList t p n W; rw [hxs, hok] at this; exact this
  have CI : ∀ W, Calls Try.prog 24 #[.agg #[.int .i64 t, .int .i64 p], .int .i64 n] W (RetInts xs ok W) := by
    intro W; have := iStepsList t p n W; rw [hxs, hok] at this; exact this
  have HS := Lib.hid CS
  have HI := Lib.hid CI
  clear CS CI hxs hok
  have hd : decide ((xs.length : Int) + 1 < 0) = false := by simp; omega
  go_enter Try.func6, Try.ntmps6
  go_wp2_with fail
  refine (toMap_any t p _).mono ?_
  rintro e w1 ⟨rfl, hb1⟩
  obtain ⟨c0, c1, hz, hb⟩ := map_block hb1
  clear hb1
  go_wp2_with fail
  refine (HS.out _).mono ?_
  rintro e w2 ⟨v0, rfl, hr2, hb2⟩
  have d0 := kept_cell hb2 hz c0
  have d1 := kept_cell hb2 hz c1
  have hz2 := Nat.lt_of_lt_of_le hz hb2.size
  have hbb := hb.trans (hb2.mono (Nat.le_of_lt hz))
  have R2 := Lib.hid hr2.isIn
  clear c0 c1 hb2 hb hr2
  go_wp2_with fail
  refine (toMap_any t p _).mono ?_
  rintro e w3 ⟨rfl, hb3⟩
  have k0 := kept_cell hb3 hz2 d0
  have k1 := kept_cell hb3 hz2 d1
  have hbc := hbb.trans (hb3.mono (Nat.le_of_lt hz2))
  have hz3 := Nat.lt_of_lt_of_le hz2 hb3.size
  have R3 := Lib.hid (R2.out.kept hb3)
  clear d0 d1 hb3 hbb
  go_wp2_with fail
  refine (HI.out _).mono ?_
  rintro e w4 ⟨v1, rfl, hr4, hb4⟩
  have d0 := kept_cell hb4 hz3 k0
  have d1 := kept_cell hb4 hz3 k1
  have hbd := hbc.trans (hb4.mono (Nat.le_of_lt hz3))
  have hz4 := Nat.lt_of_lt_of_le hz3 hb4.size
  have R4 := Lib.hid (R3.out.kept hb4)
  have S4 := Lib.hid hr4.isIn
  have O4 := Lib.hid (fun g (e : v1.ownBlock = some g) => (World.ownsRow.lt hr4 g e))
  have N0 : Hid (∀ g, v0.ownBlock = some g → xs ≠ [] → g < w3.heap.size) := Lib.hid (fun g e hx => by
    obtain ⟨a, cap, rfl, hh⟩ := R3.out
    obtain ⟨g', rfl, hlt, _⟩ := hh hx
    simp only [Value.ownBlock, Option.some.injEq] at e
    omega)
  clear k0 k1 hb4 hbc hr4
  go_wp2_with fail
  refine (eqIntS_any xs v1 v0 _ HLEN.out S4.out R4.out).mono ?_
  rintro e w5 ⟨rfl, hb5⟩
  have k0 := kept_cell hb5 hz4 d0
  have k1 := kept_cell hb5 hz4 d1
  have hbe := hbd.trans (hb5.mono (Nat.le_of_lt hz4))
  have hz5 := Nat.lt_of_lt_of_le hz4 hb5.size
  have R5 := Lib.hid (R4.out.kept hb5)
  have S5 := Lib.hid (S4.out.kept hb5)
  clear d0 d1 hb5 hbd
  go_wp2_with fail
  refine (markIntS_any xs v1 _ HLEN.out S5.out).mono ?_
  rintro e w6 ⟨rfl, hg6, hm6⟩
  have hne0 : some w.heap.size ≠ v1.ownBlock := fun e => by have := O4.out _ e.symm; omega
  have d0 := hg6.cell k0 hne0
  have d1 := hg6.cell k1 hne0
  have hbf := hbe.grown hg6 (Nat.le_of_lt hz5) (fun g e => by have := O4.out _ e; omega)
  have hz6 := Nat.lt_of_lt_of_le hz5 hg6.size
  have R6 : Hid (IntsIn w6 v0 xs) := Lib.hid (by
    by_cases hx : xs = []
    · obtain ⟨a, cap, rfl, _⟩ := R5.out
      exact ⟨a, cap, rfl, fun h => (h hx).elim⟩
    · refine R5.out.grown hg6 ?_
      cases hv : v0.ownBlock with
      | none => exact .inl rfl
      | some g =>
        refine .inr fun e => ?_
        have := N0.out g hv hx
        have := O4.out g e.symm
        omega)
  have M6 := Lib.hid hm6
  clear k0 k1 hg6 hbe hm6
  go_wp2_with fail
  refine (heldIntS_any xs.length v1 _ HLEN.out M6.out).mono ?_
  rintro e w7 ⟨rfl, rfl⟩
  go_wp2_with fail
  refine (toMap_any t p _).mono ?_
  rintro e w7 ⟨rfl, hb7⟩
  have hbg := hbf.trans (hb7.mono (Nat.le_of_lt hz6))
  have hz7 := Nat.lt_of_lt_of_le hz6 hb7.size
  have R7 := Lib.hid (R6.out.kept hb7)
  have M7 := Lib.hid (M6.out.kept hb7)
  clear d0 d1 hb7 hbf
  go_wp2_with fail
  refine (HI.out _).mono ?_
  rintro e w8 ⟨v2, rfl, hr8, hb8⟩
  have hbh := hbg.trans (hb8.mono (Nat.le_of_lt hz7))
  have hz8 := Nat.lt_of_lt_of_le hz7 hb8.size
  have R8 := Lib.hid (R7.out.kept hb8)
  have M8 := Lib.hid (M7.out.kept hb8)
  have S8 := Lib.hid hr8.isIn
  clear hb8 hbg hr8
  go_wp2_with fail
  refine (eqIntS_any xs v2 v0 _ HLEN.out S8.out R8.out).mono ?_
  rintro e w9 ⟨rfl, hb9⟩
  have hbi := hbh.trans (hb9.mono (Nat.le_of_lt hz8))
  have M9 := Lib.hid (M8.out.kept hb9)
  clear hb9 hbh
  go_wp2_with fail
  refine (heldIntS_any xs.length v1 _ HLEN.out M9.out).mono ?_
  rintro e w10 ⟨rfl, rfl⟩
  go_wp2_with fail
  go_ret
  exact ⟨rfl, hbi⟩

set_option maxHeartbeats 2000000 in
theorem fnExactFallsOf_law (t p : Int) (n : Int) (hn : (Lit.int .i64 n).wf = true) (w : World) :
    Calls Try.prog 10 #[.agg #[.int .i64 t, .int .i64 p], .int .i64 n] w fun e w' => e = .returned (.bool true) ∧ Below w.heap.size w w' := by
  have HLEN := Lib.hid (tabA_len2 fallN t p n)
  generalize hxs : tabA fallN t p n = xs at HLEN
  generalize hok : askL t p n = ok
  have CS : ∀ W, Calls Try.prog 34 #[.agg #[.int .i64 t, .int .i64 p], .int .i64 n] W (RetInts xs ok W) := by
    intro W; have := sFallsOf t p n W; rw [hxs, hok] at this; exact this
  have CI : ∀ W, Calls Try.prog 35 #[.agg #[.int .i64 t, .int .i64 p], .int .i64 n] W (RetInts xs ok W) := by
    intro W; have := iFallsOf t p n W; rw [hxs, hok] at this; exact this
  have HS := Lib.hid CS
  have HI := Lib.hid CI
  clear CS CI hxs hok
  have hd : decide ((xs.length : Int) + 1 < 0) = false := by simp; omega
  go_enter Try.func10, Try.ntmps10
  go_wp2_with fail
  refine (toMap_any t p _).mono ?_
  rintro e w1 ⟨rfl, hb1⟩
  obtain ⟨c0, c1, hz, hb⟩ := map_block hb1
  clear hb1
  go_wp2_with fail
  refine (HS.out _).mono ?_
  rintro e w2 ⟨v0, rfl, hr2, hb2⟩
  have d0 := kept_cell hb2 hz c0
  have d1 := kept_cell hb2 hz c1
  have hz2 := Nat.lt_of_lt_of_le hz hb2.size
  have hbb := hb.trans (hb2.mono (Nat.le_of_lt hz))
  have R2 := Lib.hid hr2.isIn
  clear c0 c1 hb2 hb hr2
  go_wp2_with fail
  refine (toMap_any t p _).mono ?_
  rintro e w3 ⟨rfl, hb3⟩
  have k0 := kept_cell hb3 hz2 d0
  have k1 := kept_cell hb3 hz2 d1
  have hbc := hbb.trans (hb3.mono (Nat.le_of_lt hz2))
  have hz3 := Nat.lt_of_lt_of_le hz2 hb3.size
  have R3 := Lib.hid (R2.out.kept hb3)
  clear d0 d1 hb3 hbb
  go_wp2_with fail
  refine (HI.out _).mono ?_
  rintro e w4 ⟨v1, rfl, hr4, hb4⟩
  have d0 := kept_cell hb4 hz3 k0
  have d1 := kept_cell hb4 hz3 k1
  have hbd := hbc.trans (hb4.mono (Nat.le_of_lt hz3))
  have hz4 := Nat.lt_of_lt_of_le hz3 hb4.size
  have R4 := Lib.hid (R3.out.kept hb4)
  have S4 := Lib.hid hr4.isIn
  have O4 := Lib.hid (fun g (e : v1.ownBlock = some g) => (World.ownsRow.lt hr4 g e))
  have N0 : Hid (∀ g, v0.ownBlock = some g → xs ≠ [] → g < w3.heap.size) := Lib.hid (fun g e hx => by
    obtain ⟨a, cap, rfl, hh⟩ := R3.out
    obtain ⟨g', rfl, hlt, _⟩ := hh hx
    simp only [Value.ownBlock, Option.some.injEq] at e
    omega)
  clear k0 k1 hb4 hbc hr4
  go_wp2_with fail
  refine (eqIntS_any xs v1 v0 _ HLEN.out S4.out R4.out).mono ?_
  rintro e w5 ⟨rfl, hb5⟩
  have k0 := kept_cell hb5 hz4 d0
  have k1 := kept_cell hb5 hz4 d1
  have hbe := hbd.trans (hb5.mono (Nat.le_of_lt hz4))
  have hz5 := Nat.lt_of_lt_of_le hz4 hb5.size
  have R5 := Lib.hid (R4.out.kept hb5)
  have S5 := Lib.hid (S4.out.kept hb5)
  clear d0 d1 hb5 hbd
  go_wp2_with fail
  refine (markIntS_any xs v1 _ HLEN.out S5.out).mono ?_
  rintro e w6 ⟨rfl, hg6, hm6⟩
  have hne0 : some w.heap.size ≠ v1.ownBlock := fun e => by have := O4.out _ e.symm; omega
  have d0 := hg6.cell k0 hne0
  have d1 := hg6.cell k1 hne0
  have hbf := hbe.grown hg6 (Nat.le_of_lt hz5) (fun g e => by have := O4.out _ e; omega)
  have hz6 := Nat.lt_of_lt_of_le hz5 hg6.size
  have R6 : Hid (IntsIn w6 v0 xs) := Lib.hid (by
    by_cases hx : xs = []
    · obtain ⟨a, cap, rfl, _⟩ := R5.out
      exact ⟨a, cap, rfl, fun h => (h hx).elim⟩
    · refine R5.out.grown hg6 ?_
      cases hv : v0.ownBlock with
      | none => exact .inl rfl
      | some g =>
        refine .inr fun e => ?_
        have := N0.out g hv hx
        have := O4.out g e.symm
        omega)
  have M6 := Lib.hid hm6
  clear k0 k1 hg6 hbe hm6
  go_wp2_with fail
  refine (heldIntS_any xs.length v1 _ HLEN.out M6.out).mono ?_
  rintro e w7 ⟨rfl, rfl⟩
  go_wp2_with fail
  refine (toMap_any t p _).mono ?_
  rintro e w7 ⟨rfl, hb7⟩
  have hbg := hbf.trans (hb7.mono (Nat.le_of_lt hz6))
  have hz7 := Nat.lt_of_lt_of_le hz6 hb7.size
  have R7 := Lib.hid (R6.out.kept hb7)
  have M7 := Lib.hid (M6.out.kept hb7)
  clear d0 d1 hb7 hbf
  go_wp2_with fail
  refine (HI.out _).mono ?_
  rintro e w8 ⟨v2, rfl, hr8, hb8⟩
  have hbh := hbg.trans (hb8.mono (Nat.le_of_lt hz7))
  have hz8 := Nat.lt_of_lt_of_le hz7 hb8.size
  have R8 := Lib.hid (R7.out.kept hb8)
  have M8 := Lib.hid (M7.out.kept hb8)
  have S8 := Lib.hid hr8.isIn
  clear hb8 hbg hr8
  go_wp2_with fail
  refine (eqIntS_any xs v2 v0 _ HLEN.out S8.out R8.out).mono ?_
  rintro e w9 ⟨rfl, hb9⟩
  have hbi := hbh.trans (hb9.mono (Nat.le_of_lt hz8))
  have M9 := Lib.hid (M8.out.kept hb9)
  clear hb9 hbh
  go_wp2_with fail
  refine (heldIntS_any xs.length v1 _ HLEN.out M9.out).mono ?_
  rintro e w10 ⟨rfl, rfl⟩
  go_wp2_with fail
  go_ret
  exact ⟨rfl, hbi⟩

set_option maxHeartbeats 2000000 in
theorem fnExactWithSteps_law (t p : Int) (n : Int) (s : Int) (hn : (Lit.int .i64 n).wf = true) (hs : (Lit.int .i64 s).wf = true) (w : World) :
    Calls Try.prog 8 #[.agg #[.int .i64 t, .int .i64 p], .int .i64 n, .int .i64 s] w fun e w' => e = .returned (.bool true) ∧ Below w.heap.size w w' := by
  have HLEN := Lib.hid (withA_len t p n s)
  generalize hxs : withA t p n s = xs at HLEN
  generalize hok : askS t p n s = ok
  have CS : ∀ W, Calls Try.prog 30 #[.agg #[.int .i64 t, .int .i64 p], .int .i64 n, .int .i64 s] W (RetInts xs ok W) := by
    intro W; have := sWithSteps t p n s W; rw [hxs, hok] at this; exact this
  have CI : ∀ W, Calls Try.prog 31 #[.agg #[.int .i64 t, .int .i64 p], .int .i64 n, .int .i64 s] W (RetInts xs ok W) := by
    intro W; have := iWithSteps t p n s W; rw [hxs, hok] at this; exact this
  have HS := Lib.hid CS
  have HI := Lib.hid CI
  clear CS CI hxs hok
  have hd : decide ((xs.length : Int) + 1 < 0) = false := by simp; omega
  go_enter Try.func8, Try.ntmps8
  go_wp2_with fail
  refine (toMap_any t p _).mono ?_
  rintro e w1 ⟨rfl, hb1⟩
  obtain ⟨c0, c1, hz, hb⟩ := map_block hb1
  clear hb1
  go_wp2_with fail
  refine (HS.out _).mono ?_
  rintro e w2 ⟨v0, rfl, hr2, hb2⟩
  have d0 := kept_cell hb2 hz c0
  have d1 := kept_cell hb2 hz c1
  have hz2 := Nat.lt_of_lt_of_le hz hb2.size
  have hbb := hb.trans (hb2.mono (Nat.le_of_lt hz))
  have R2 := Lib.hid hr2.isIn
  clear c0 c1 hb2 hb hr2
  go_wp2_with fail
  refine (toMap_any t p _).mono ?_
  rintro e w3 ⟨rfl, hb3⟩
  have k0 := kept_cell hb3 hz2 d0
  have k1 := kept_cell hb3 hz2 d1
  have hbc := hbb.trans (hb3.mono (Nat.le_of_lt hz2))
  have hz3 := Nat.lt_of_lt_of_le hz2 hb3.size
  have R3 := Lib.hid (R2.out.kept hb3)
  clear d0 d1 hb3 hbb
  go_wp2_with fail
  refine (HI.out _).mono ?_
  rintro e w4 ⟨v1, rfl, hr4, hb4⟩
  have d0 := kept_cell hb4 hz3 k0
  have d1 := kept_cell hb4 hz3 k1
  have hbd := hbc.trans (hb4.mono (Nat.le_of_lt hz3))
  have hz4 := Nat.lt_of_lt_of_le hz3 hb4.size
  have R4 := Lib.hid (R3.out.kept hb4)
  have S4 := Lib.hid hr4.isIn
  have O4 := Lib.hid (fun g (e : v1.ownBlock = some g) => (World.ownsRow.lt hr4 g e))
  have N0 : Hid (∀ g, v0.ownBlock = some g → xs ≠ [] → g < w3.heap.size) := Lib.hid (fun g e hx => by
    obtain ⟨a, cap, rfl, hh⟩ := R3.out
    obtain ⟨g', rfl, hlt, _⟩ := hh hx
    simp only [Value.ownBlock, Option.some.injEq] at e
    omega)
  clear k0 k1 hb4 hbc hr4
  go_wp2_with fail
  refine (eqIntS_any xs v1 v0 _ HLEN.out S4.out R4.out).mono ?_
  rintro e w5 ⟨rfl, hb5⟩
  have k0 := kept_cell hb5 hz4 d0
  have k1 := kept_cell hb5 hz4 d1
  have hbe := hbd.trans (hb5.mono (Nat.le_of_lt hz4))
  have hz5 := Nat.lt_of_lt_of_le hz4 hb5.size
  have R5 := Lib.hid (R4.out.kept hb5)
  have S5 := Lib.hid (S4.out.kept hb5)
  clear d0 d1 hb5 hbd
  go_wp2_with fail
  refine (markIntS_any xs v1 _ HLEN.out S5.out).mono ?_
  rintro e w6 ⟨rfl, hg6, hm6⟩
  have hne0 : some w.heap.size ≠ v1.ownBlock := fun e => by have := O4.out _ e.symm; omega
  have d0 := hg6.cell k0 hne0
  have d1 := hg6.cell k1 hne0
  have hbf := hbe.grown hg6 (Nat.le_of_lt hz5) (fun g e => by have := O4.out _ e; omega)
  have hz6 := Nat.lt_of_lt_of_le hz5 hg6.size
  have R6 : Hid (IntsIn w6 v0 xs) := Lib.hid (by
    by_cases hx : xs = []
    · obtain ⟨a, cap, rfl, _⟩ := R5.out
      exact ⟨a, cap, rfl, fun h => (h hx).elim⟩
    · refine R5.out.grown hg6 ?_
      cases hv : v0.ownBlock with
      | none => exact .inl rfl
      | some g =>
        refine .inr fun e => ?_
        have := N0.out g hv hx
        have := O4.out g e.symm
        omega)
  have M6 := Lib.hid hm6
  clear k0 k1 hg6 hbe hm6
  go_wp2_with fail
  refine (heldIntS_any xs.length v1 _ HLEN.out M6.out).mono ?_
  rintro e w7 ⟨rfl, rfl⟩
  go_wp2_with fail
  refine (toMap_any t p _).mono ?_
  rintro e w7 ⟨rfl, hb7⟩
  have hbg := hbf.trans (hb7.mono (Nat.le_of_lt hz6))
  have hz7 := Nat.lt_of_lt_of_le hz6 hb7.size
  have R7 := Lib.hid (R6.out.kept hb7)
  have M7 := Lib.hid (M6.out.kept hb7)
  clear d0 d1 hb7 hbf
  go_wp2_with fail
  refine (HI.out _).mono ?_
  rintro e w8 ⟨v2, rfl, hr8, hb8⟩
  have hbh := hbg.trans (hb8.mono (Nat.le_of_lt hz7))
  have hz8 := Nat.lt_of_lt_of_le hz7 hb8.size
  have R8 := Lib.hid (R7.out.kept hb8)
  have M8 := Lib.hid (M7.out.kept hb8)
  have S8 := Lib.hid hr8.isIn
  clear hb8 hbg hr8
  go_wp2_with fail
  refine (eqIntS_any xs v2 v0 _ HLEN.out S8.out R8.out).mono ?_
  rintro e w9 ⟨rfl, hb9⟩
  have hbi := hbh.trans (hb9.mono (Nat.le_of_lt hz8))
  have M9 := Lib.hid (M8.out.kept hb9)
  clear hb9 hbh
  go_wp2_with fail
  refine (heldIntS_any xs.length v1 _ HLEN.out M9.out).mono ?_
  rintro e w10 ⟨rfl, rfl⟩
  go_wp2_with fail
  go_ret
  exact ⟨rfl, hbi⟩
end Go.Proofs.Ytklbejejadmehaa
