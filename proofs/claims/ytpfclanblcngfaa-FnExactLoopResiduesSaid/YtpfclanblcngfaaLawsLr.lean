/-
  THE WALK OF THE LAW 'LoopResidues'.
-/
import Derived.Test.YtpfclanblcngfaaRrU
import Derived.Test.YtpfclanblcngfaaRrV
import Derived.Test.YtpfclanblcngfaaSlices
import Derived.Test.YtpfclanblcngfaaLists
namespace Go.Proofs.Ytpfclanblcngfaa
open Go.RowKit
set_option linter.unusedVariables false

set_option maxHeartbeats 2000000 in
theorem fnExactLoopResidues_law (t p : Int) (q : Int) (hq : (Lit.int .i64 q).wf = true) (w : World) :
    Calls Try.prog 6 #[.agg #[.int .i64 t, .int .i64 p], .int .i64 q] w fun e w' => e = .returned (.bool true) ∧ Below w.heap.size w w' := by
  have HLEN := Lib.hid (loA_len t p q)
  generalize hxs : loA t p q = xs at HLEN
  generalize hok : askN t p q = ok
  have CS : ∀ W, Calls Try.prog 17 #[.agg #[.int .i64 t, .int .i64 p], .int .i64 q] W (RetInts xs ok W) := by
    intro W; have := sLoopResidues t p q W; rw [hxs, hok] at this; exact this
  have CI : ∀ W, Calls Try.prog 18 #[.agg #[.int .i64 t, .int .i64 p], .int .i64 q] W (RetInts xs ok W) := by
    intro W; have := iLoopResidues t p q W; rw [hxs, hok] at this; exact this
  have HS := Lib.hid CS
  have HI := Lib.hid CI
  clear CS CI hxs hok
  have hd : decide ((xs.length : Int) + 1 < 0) = false := by simp; omega
  go_enter Try.func6, Try.ntmps6
  go_wp2_with fail
  refine (toMap_any t p _).mono ?_
  rintro e w1 ⟨rfl, hb1⟩
  obtain ⟨c0, c1, hz, hb⟩ := map_block hb1
  clear hb1
  go_wp2_with fail
  refine (HS.out _).mono ?_
  rintro e w2 ⟨v0, rfl, hr2, hb2⟩
  have d0 := kept_cell hb2 hz c0
  have d1 := kept_cell hb2 hz c1
  have hz2 := Nat.lt_of_lt_of_le hz hb2.size
  have hbb := hb.trans (hb2.mono (Nat.le_of_lt hz))
  have R2 := Lib.hid hr2.isIn
  clear c0 c1 hb2 hb hr2
  go_wp2_with fail
  refine (toMap_any t p _).mono ?_
  rintro e w3 ⟨rfl, hb3⟩
  have k0 := kept_cell hb3 hz2 d0
  have k1 := kept_cell hb3 hz2 d1
  have hbc := hbb.trans (hb3.mono (Nat.le_of_lt hz2))
  have hz3 := Nat.lt_of_lt_of_le hz2 hb3.size
  have R3 := Lib.hid (R2.out.kept hb3)
  clear d0 d1 hb3 hbb
  go_wp2_with fail
  refine (HI.out _).mono ?_
  rintro e w4 ⟨v1, rfl, hr4, hb4⟩
  have d0 := kept_cell hb4 hz3 k0
  have d1 := kept_cell hb4 hz3 k1
  have hbd := hbc.trans (hb4.mono (Nat.le_of_lt hz3))
  have hz4 := Nat.lt_of_lt_of_le hz3 hb4.size
  have R4 := Lib.hid (R3.out.kept hb4)
  have S4 := Lib.hid hr4.isIn
  have O4 := Lib.hid (fun g (e : v1.ownBlock = some g) => (World.ownsRow.lt hr4 g e))
  have N0 : Hid (∀ g, v0.ownBlock = some g → xs ≠ [] → g < w3.heap.size) := Lib.hid (fun g e hx => by
    obtain ⟨a, cap, rfl, hh⟩ := R3.out
    obtain ⟨g', rfl, hlt, _⟩ := hh hx
    simp only [Value.ownBlock, Option.some.injEq] at e
    omega)
  clear k0 k1 hb4 hbc hr4
  go_wp2_with fail
  refine (eqIntS_any xs v1 v0 _ HLEN.out S4.out R4.out).mono ?_
  rintro e w5 ⟨rfl, hb5⟩
  have k0 := kept_cell hb5 hz4 d0
  have k1 := kept_cell hb5 hz4 d1
  have hbe := hbd.trans (hb5.mono (Nat.le_of_lt hz4))
  have hz5 := Nat.lt_of_lt_of_le hz4 hb5.size
  have R5 := Lib.hid (R4.out.kept hb5)
  have S5 := Lib.hid (S4.out.kept hb5)
  clear d0 d1 hb5 hbd
  go_wp2_with fail
  refine (markIntS_any xs v1 _ HLEN.out S5.out).mono ?_
  rintro e w6 ⟨rfl, hg6, hm6⟩
  have hne0 : some w.heap.size ≠ v1.ownBlock := fun e => by have := O4.out _ e.symm; omega
  have d0 := hg6.cell k0 hne0
  have d1 := hg6.cell k1 hne0
  have hbf := hbe.grown hg6 (Nat.le_of_lt hz5) (fun g e => by have := O4.out _ e; omega)
  have hz6 := Nat.lt_of_lt_of_le hz5 hg6.size
  have R6 : Hid (IntsIn w6 v0 xs) := Lib.hid (by
    by_cases hx : xs = []
    · obtain ⟨a, cap, rfl, _⟩ := R5.out
      exact ⟨a, cap, rfl, fun h => (h hx).elim⟩
    · refine R5.out.grown hg6 ?_
      cases hv : v0.ownBlock with
      | none => exact .inl rfl
      | some g =>
        refine .inr fun e => ?_
        have := N0.out g hv hx
        have := O4.out g e.symm
        omega)
  have M6 := Lib.hid hm6
  clear k0 k1 hg6 hbe hm6
  go_wp2_with fail
  refine (heldIntS_any xs.length v1 _ HLEN.out M6.out).mono ?_
  rintro e w7 ⟨rfl, rfl⟩
  go_wp2_with fail
  refine (toMap_any t p _).mono ?_
  rintro e w7 ⟨rfl, hb7⟩
  have hbg := hbf.trans (hb7.mono (Nat.le_of_lt hz6))
  have hz7 := Nat.lt_of_lt_of_le hz6 hb7.size
  have R7 := Lib.hid (R6.out.kept hb7)
  have M7 := Lib.hid (M6.out.kept hb7)
  clear d0 d1 hb7 hbf
  go_wp2_with fail
  refine (HI.out _).mono ?_
  rintro e w8 ⟨v2, rfl, hr8, hb8⟩
  have hbh := hbg.trans (hb8.mono (Nat.le_of_lt hz7))
  have hz8 := Nat.lt_of_lt_of_le hz7 hb8.size
  have R8 := Lib.hid (R7.out.kept hb8)
  have M8 := Lib.hid (M7.out.kept hb8)
  have S8 := Lib.hid hr8.isIn
  clear hb8 hbg hr8
  go_wp2_with fail
  refine (eqIntS_any xs v2 v0 _ HLEN.out S8.out R8.out).mono ?_
  rintro e w9 ⟨rfl, hb9⟩
  have hbi := hbh.trans (hb9.mono (Nat.le_of_lt hz8))
  have M9 := Lib.hid (M8.out.kept hb9)
  clear hb9 hbh
  go_wp2_with fail
  refine (heldIntS_any xs.length v1 _ HLEN.out M9.out).mono ?_
  rintro e w10 ⟨rfl, rfl⟩
  go_wp2_with fail
  go_ret
  exact ⟨rfl, hbi⟩
end Go.Proofs.Ytpfclanblcngfaa
