/-
  'OddBefore' of both.
-/
import Derived.Test.YtbejddpdccddpaaTreeB
namespace Go.Proofs.Ytbejddpdccddpaa
open Go.RowKit
set_option linter.unusedVariables false

/-- Are there a map and a number? -/
def askN (t p n : Int) : Bool := goodB t p && numB n
/-- The odd number before n, if it is asked well. -/
def obO (t p n : Int) : Option Int := if askN t p n = true then oddBf t p n else none
theorem numB_wide {n : Int} (h : numB n = true) : -100000000000000 ≤ n ∧ n ≤ 100000000000000 := by have := numB_iff.1 h; omega
set_option maxHeartbeats 2000000 in
theorem iOddBefore (t p n : Int) (w : World) :
    Calls Try.prog 25 #[.agg #[.int .i64 t, .int .i64 p], .int .i64 n] w fun e w' => e = .returned (.tuple #[.int .i64 ((obO t p n).getD 0), .bool (obO t p n).isSome]) ∧ Below w.heap.size w w' := by
  have HM := Lib.hid (fun w => isMap_any t p w)
  cases hg : goodB t p
  · have HA : Hid (obO t p n = none) := Lib.hid (by rw [obO, if_neg (by simp [askN, hg])])
    rw [hg] at HM
    clear hg
    go_enter Try.func25, Try.ntmps25
    go_wp2_with fail
    refine (HM.out _).mono ?_
    rintro e w1 ⟨rfl, hb1⟩
    obtain ⟨c0, c1, hz, hb⟩ := map_block hb1
    clear hb1
    go_wp2_with fail
    go_ret2
    exact ⟨by rw [HA.out]; rfl, hb⟩
  · have HI := Lib.hid (fun w => isNumber_any n w)
    rw [hg] at HM
    cases hn : numB n
    · have HA : Hid (obO t p n = none) := Lib.hid (by rw [obO, if_neg (by simp [askN, hn])])
      rw [hn] at HI
      clear hg hn
      go_enter Try.func25, Try.ntmps25
      go_wp2_with fail
      refine (HM.out _).mono ?_
      rintro e w1 ⟨rfl, hb1⟩
      obtain ⟨c0, c1, hz, hb⟩ := map_block hb1
      clear hb1
      go_wp2_with (go_at_call 45; refine (HI.out _).mono ?_; rintro e w' ⟨rfl, rfl⟩)
      go_ret2
      exact ⟨by rw [HA.out]; rfl, hb⟩
    · have HA : Hid (obO t p n = if numB (oddP t p n) = true then some (oddP t p n) else none) := Lib.hid (by rw [obO, if_pos (by simp [askN, hg, hn]), oddBf_oddP hg])
      have HO := Lib.hid (fun w => oddTo_any t p n w hg (numB_wide hn).1 (numB_wide hn).2)
      generalize oddP t p n = x at HA HO
      have HX := Lib.hid (fun w => isNumber_any x w)
      rw [hn] at HI
      cases hx : numB x
      · rw [if_neg (by simp [hx])] at HA
        rw [hx] at HX
        clear hg hn hx
        go_enter Try.func25, Try.ntmps25
        go_wp2_with fail
        refine (HM.out _).mono ?_
        rintro e w1 ⟨rfl, hb1⟩
        obtain ⟨c0, c1, hz, hb⟩ := map_block hb1
        clear hb1
        go_wp2_with (first
          | (go_at_call 45; refine (HI.out _).mono ?_; rintro e w' ⟨rfl, rfl⟩; clear HI)
          | (go_at_call 53; refine (HO.out _).mono ?_; rintro e w2 ⟨rfl, hb2⟩; have hbb := hb.trans (hb2.mono (Nat.le_of_lt hz)); clear hb hb2 c0 c1)
          | (go_at_call 45; refine (HX.out _).mono ?_; rintro e w' ⟨rfl, rfl⟩))
        go_ret2
        exact ⟨by rw [HA.out]; rfl, hbb⟩
      · rw [if_pos hx] at HA
        rw [hx] at HX
        clear hg hn hx
        go_enter Try.func25, Try.ntmps25
        go_wp2_with fail
        refine (HM.out _).mono ?_
        rintro e w1 ⟨rfl, hb1⟩
        obtain ⟨c0, c1, hz, hb⟩ := map_block hb1
        clear hb1
        go_wp2_with (first
          | (go_at_call 45; refine (HI.out _).mono ?_; rintro e w' ⟨rfl, rfl⟩; clear HI)
          | (go_at_call 53; refine (HO.out _).mono ?_; rintro e w2 ⟨rfl, hb2⟩; have hbb := hb.trans (hb2.mono (Nat.le_of_lt hz)); clear hb hb2 c0 c1)
          | (go_at_call 45; refine (HX.out _).mono ?_; rintro e w' ⟨rfl, rfl⟩))
        go_ret2
        exact ⟨by rw [HA.out]; rfl, hbb⟩
set_option maxHeartbeats 2000000 in
theorem sOddBefore (t p n : Int) (w : World) :
    Calls Try.prog 26 #[.agg #[.int .i64 t, .int .i64 p], .int .i64 n] w fun e w' => e = .returned (.tuple #[.int .i64 ((obO t p n).getD 0), .bool (obO t p n).isSome]) ∧ Below w.heap.size w w' := by
  have HM := Lib.hid (fun w => mpGood_any t p w)
  cases hg : goodB t p
  · have HA : Hid (obO t p n = none) := Lib.hid (by rw [obO, if_neg (by simp [askN, hg])])
    rw [hg] at HM
    clear hg
    go_enter Try.func26, Try.ntmps26
    go_wp2_with fail
    refine (HM.out _).mono ?_
    rintro e w1 ⟨rfl, hb1⟩
    obtain ⟨c0, c1, hz, hb⟩ := map_block hb1
    clear hb1
    go_wp2_with fail
    go_ret2
    exact ⟨by rw [HA.out]; rfl, hb⟩
  · have HI := Lib.hid (fun w => mpIs_any n w)
    rw [hg] at HM
    cases hn : numB n
    · have HA : Hid (obO t p n = none) := Lib.hid (by rw [obO, if_neg (by simp [askN, hn])])
      rw [hn] at HI
      clear hg hn
      go_enter Try.func26, Try.ntmps26
      go_wp2_with fail
      refine (HM.out _).mono ?_
      rintro e w1 ⟨rfl, hb1⟩
      obtain ⟨c0, c1, hz, hb⟩ := map_block hb1
      clear hb1
      go_wp2_with (go_at_call 49; refine (HI.out _).mono ?_; rintro e w' ⟨rfl, rfl⟩)
      go_ret2
      exact ⟨by rw [HA.out]; rfl, hb⟩
    · have HA : Hid (obO t p n = oddBf t p n) := Lib.hid (by rw [obO, if_pos (by simp [askN, hg, hn])])
      have HO := Lib.hid (fun w => trOdd_any t p n w hg (numB_wide hn).1 (numB_wide hn).2)
      have HE := Lib.hid (fun x (h : oddBf t p n = some x) => oddBf_eq h)
      generalize (n - p).tdiv t = y at HO HE
      rw [hn] at HI
      cases ho : oddBf t p n with
      | none =>
        rw [ho] at HA HO
        clear hg hn ho HE
        go_enter Try.func26, Try.ntmps26
        go_wp2_with fail
        refine (HM.out _).mono ?_
        rintro e w1 ⟨rfl, hb1⟩
        obtain ⟨c0, c1, hz, hb⟩ := map_block hb1
        clear hb1
        go_wp2_with (first
          | (go_at_call 49; refine (HI.out _).mono ?_; rintro e w' ⟨rfl, rfl⟩)
          | (go_at_call 54; refine (HO.out _).mono ?_; rintro e w2 ⟨rfl, hb2⟩; have hbb := hb.trans (hb2.mono (Nat.le_of_lt hz)); clear hb hb2 c0 c1))
        go_ret2
        exact ⟨by rw [HA.out]; rfl, hbb⟩
      | some x =>
        obtain rfl : x = y := HE.out x ho
        rw [ho] at HA HO
        clear hg hn ho HE
        go_enter Try.func26, Try.ntmps26
        go_wp2_with fail
        refine (HM.out _).mono ?_
        rintro e w1 ⟨rfl, hb1⟩
        obtain ⟨c0, c1, hz, hb⟩ := map_block hb1
        clear hb1
        go_wp2_with (first
          | (go_at_call 49; refine (HI.out _).mono ?_; rintro e w' ⟨rfl, rfl⟩)
          | (go_at_call 54; refine (HO.out _).mono ?_; rintro e w2 ⟨rfl, hb2⟩; have hbb := hb.trans (hb2.mono (Nat.le_of_lt hz)); clear hb hb2 c0 c1))
        go_ret2
        exact ⟨by rw [HA.out]; rfl, hbb⟩
end Go.Proofs.Ytbejddpdccddpaa
