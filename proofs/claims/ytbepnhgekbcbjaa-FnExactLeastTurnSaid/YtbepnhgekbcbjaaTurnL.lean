/-
  'TurnWord', 'LeastTurn' of both.
-/
import Derived.Test.YtbepnhgekbcbjaaTurnW
namespace Go.Proofs.Ytbepnhgekbcbjaa
open Go.RowKit
set_option linter.unusedVariables false

/-- What TurnWord comes to. -/
def twn (s : ByteArray) (k : Int) : ByteArray × Bool := if turnB s = true ∧ 0 ≤ k ∧ k < s.size then (bts (rotL s.data.toList k.toNat), true) else (⟨#[]⟩, false)
/-- What LeastTurn comes to. -/
def ltn (s : ByteArray) : ByteArray × Bool := if turnB s = true then (bts (leastT s.data.toList), true) else (⟨#[]⟩, false)
theorem ret_sbt {x : ByteArray × Bool} {y : ByteArray} {b : Bool} (h : x = (y, b)) : Ending.returned (.tuple #[.string y, .bool b]) = .returned (.tuple #[.string x.1, .bool x.2]) := by rw [h]
theorem clone_t (s : ByteArray) (w : World) (h : s.size ≤ 281474976710656) :
    Calls Try.prog 32 #[.string s] w fun e w' => e = .returned (.string s) ∧ Below w.heap.size w w' := by
  have HC := Lib.hid (fun w => Try.stringslite_Clone s w h)
  clear h
  go_enter Try.func32, Try.ntmps32
  go_wp2_with fail
  refine (HC.out _).mono ?_
  rintro e w1 ⟨rfl, hb⟩
  go_wp2_with fail
  go_ret
  exact ⟨rfl, hb⟩
theorem rot_size {s : ByteArray} (hz : s.size ≤ 10) (k : Nat) : (bts (rotL s.data.toList k)).size ≤ 281474976710656 := by
  rw [bts_size, rotL_length]
  have : s.data.toList.length = s.size := by simp
  omega
theorem least_size {s : ByteArray} (hz : s.size ≤ 10) : (bts (leastT s.data.toList)).size ≤ 281474976710656 := by
  rw [bts_size, leastT, ltk_length]
  have : s.data.toList.length = s.size := by simp
  omega

set_option maxHeartbeats 1000000 in
theorem sTurnWord (s : ByteArray) (k : Int) (w : World) :
    Calls Try.prog 16 #[.string s, .int .i64 k] w fun e w' => e = .returned (.tuple #[.string (twn s k).1, .bool (twn s k).2]) ∧ Below w.heap.size w w' := by
  have HW := Lib.hid (fun w => cyWord_any s w)
  cases hw : turnB s
  · have HY : Hid (twn s k = (⟨#[]⟩, false)) := Lib.hid (by rw [twn, if_neg (by simp [hw])])
    rw [hw] at HW
    clear hw
    go_enter Try.func16, Try.ntmps16
    go_wp2_with (go_at_call 23; refine (HW.out _).mono ?_; rintro e w' ⟨rfl, rfl⟩)
    go_ret2
    exact ⟨ret_sbt HY.out, Below.refl _ _⟩
  · obtain ⟨z0, z1, hs⟩ := turnB_iff.1 hw
    have hz1 : (s.size : Int) ≤ 10 := by omega
    have hz0 : (1 : Int) ≤ s.size := by omega
    have HI := Lib.hid (fun w => l1In_any k 0 ((s.size : Int) - 1) w)
    by_cases hk : 0 ≤ k ∧ k < s.size
    · have HY : Hid (twn s k = (bts (rotL s.data.toList k.toNat), true)) := Lib.hid (by rw [twn, if_pos ⟨hw, hk.1, hk.2⟩])
      rw [show inB k 0 ((s.size : Int) - 1) = true by simp [inB]; omega] at HI
      rw [hw] at HW
      obtain ⟨K, rfl⟩ : ∃ K : Nat, k = K := ⟨k.toNat, by omega⟩
      have hlen : s.data.toList.length = s.size := by simp
      have HT := Lib.hid (fun w => cyTurned_any s.data.toList K w (by omega) (by omega))
      clear hw hs hk hlen
      go_enter Try.func16, Try.ntmps16
      go_wp2_with (first | (go_at_call 23; refine (HW.out _).mono ?_; rintro e w' ⟨rfl, rfl⟩) | (go_at_call 30; refine (HI.out _).mono ?_; rintro e w' ⟨rfl, rfl⟩))
      refine (HT.out _).mono ?_
      rintro e w2 ⟨rfl, hb2⟩
      go_wp2_with fail
      go_ret2
      exact ⟨ret_sbt HY.out, hb2⟩
    · have HY : Hid (twn s k = (⟨#[]⟩, false)) := Lib.hid (by rw [twn, if_neg (fun h => hk h.2)])
      rw [show inB k 0 ((s.size : Int) - 1) = false by simp [inB]; omega] at HI
      rw [hw] at HW
      clear hw hs hk
      go_enter Try.func16, Try.ntmps16
      go_wp2_with (first | (go_at_call 23; refine (HW.out _).mono ?_; rintro e w' ⟨rfl, rfl⟩) | (go_at_call 30; refine (HI.out _).mono ?_; rintro e w' ⟨rfl, rfl⟩))
      go_ret2
      exact ⟨ret_sbt HY.out, Below.refl _ _⟩

set_option maxHeartbeats 1000000 in
theorem iTurnWord (s : ByteArray) (k : Int) (w : World) :
    Calls Try.prog 17 #[.string s, .int .i64 k] w fun e w' => e = .returned (.tuple #[.string (twn s k).1, .bool (twn s k).2]) ∧ Below w.heap.size w w' := by
  have HW := Lib.hid (fun w => isTurnWord_any s w)
  cases hw : turnB s
  · have HY : Hid (twn s k = (⟨#[]⟩, false)) := Lib.hid (by rw [twn, if_neg (by simp [hw])])
    rw [hw] at HW
    clear hw
    go_enter Try.func17, Try.ntmps17
    go_wp2_with fail
    refine (HW.out _).mono ?_
    rintro e w1 ⟨rfl, hb1⟩
    go_wp2_with fail
    go_ret2
    exact ⟨ret_sbt HY.out, hb1⟩
  · obtain ⟨z0, z1, hs⟩ := turnB_iff.1 hw
    have hz1 : (s.size : Int) ≤ 10 := by omega
    have hz0 : (1 : Int) ≤ s.size := by omega
    rw [hw] at HW
    by_cases hk0 : k < 0
    · have HY : Hid (twn s k = (⟨#[]⟩, false)) := Lib.hid (by rw [twn, if_neg (fun h => by have := h.2.1; omega)])
      have hd0 : decide (k < 0) = true := by simpa using hk0
      clear hw hs
      go_enter Try.func17, Try.ntmps17
      go_wp2_with fail
      refine (HW.out _).mono ?_
      rintro e w1 ⟨rfl, hb1⟩
      go_wp2_with fail
      go_ret2
      exact ⟨ret_sbt HY.out, hb1⟩
    · have hd0 : decide (k < 0) = false := by simpa using hk0
      by_cases hk1 : k < s.size
      · have HY : Hid (twn s k = (bts (rotL s.data.toList k.toNat), true)) := Lib.hid (by rw [twn, if_pos ⟨hw, by omega, hk1⟩])
        obtain ⟨K, rfl⟩ : ∃ K : Nat, k = K := ⟨k.toNat, by omega⟩
        have hlen : s.data.toList.length = s.size := by simp
        have HT := Lib.hid (fun w => turn_any s.data.toList K w (by omega) (by omega))
        have HC := Lib.hid (fun w => clone_t (bts (rotL s.data.toList K)) w (rot_size z1 K))
        have hK : K < s.size := by omega
        have hd1 : decide (s.size ≤ K) = false := by simpa using hK
        clear hw hs hlen
        go_enter Try.func17, Try.ntmps17
        go_wp2_with fail
        refine (HW.out _).mono ?_
        rintro e w1 ⟨rfl, hb1⟩
        go_wp2_with fail
        refine (HT.out _).mono ?_
        rintro e w2 ⟨rfl, hb2⟩
        have HB2 := Lib.hid (hb1.trans (hb2.mono hb1.size))
        clear hb2 hb1
        go_wp2_with fail
        refine (HC.out _).mono ?_
        rintro e w3 ⟨rfl, hb3⟩
        have HB3 := Lib.hid (HB2.out.trans (hb3.mono HB2.out.size))
        clear hb3
        go_wp2_with fail
        go_ret2
        exact ⟨ret_sbt HY.out, HB3.out⟩
      · have HY : Hid (twn s k = (⟨#[]⟩, false)) := Lib.hid (by rw [twn, if_neg (fun h => hk1 h.2.2)])
        obtain ⟨K, rfl⟩ : ∃ K : Nat, k = K := ⟨k.toNat, by omega⟩
        have hK : s.size ≤ K := by omega
        have hd1 : decide (s.size ≤ K) = true := by simpa using hK
        clear hw hs
        go_enter Try.func17, Try.ntmps17
        go_wp2_with fail
        refine (HW.out _).mono ?_
        rintro e w1 ⟨rfl, hb1⟩
        go_wp2_with fail
        go_ret2
        exact ⟨ret_sbt HY.out, hb1⟩

set_option maxHeartbeats 1000000 in
theorem sLeastTurn (s : ByteArray) (w : World) :
    Calls Try.prog 18 #[.string s] w fun e w' => e = .returned (.tuple #[.string (ltn s).1, .bool (ltn s).2]) ∧ Below w.heap.size w w' := by
  have HW := Lib.hid (fun w => cyWord_any s w)
  cases hw : turnB s
  · have HY : Hid (ltn s = (⟨#[]⟩, false)) := Lib.hid (by rw [ltn, if_neg (by simp [hw])])
    rw [hw] at HW
    clear hw
    go_enter Try.func18, Try.ntmps18
    go_wp2_with (go_at_call 23; refine (HW.out _).mono ?_; rintro e w' ⟨rfl, rfl⟩)
    go_ret2
    exact ⟨ret_sbt HY.out, Below.refl _ _⟩
  · obtain ⟨z0, z1, hs⟩ := turnB_iff.1 hw
    have HY : Hid (ltn s = (bts (leastT s.data.toList), true)) := Lib.hid (by rw [ltn, if_pos hw])
    have HT := Lib.hid (fun w => cyFirst_any s w z1 hs)
    rw [hw] at HW
    clear hw hs
    go_enter Try.func18, Try.ntmps18
    go_wp2_with (go_at_call 23; refine (HW.out _).mono ?_; rintro e w' ⟨rfl, rfl⟩)
    refine (HT.out _).mono ?_
    rintro e w2 ⟨rfl, hb2⟩
    go_wp2_with fail
    go_ret2
    exact ⟨ret_sbt HY.out, hb2⟩

set_option maxHeartbeats 1000000 in
theorem iLeastTurn (s : ByteArray) (w : World) :
    Calls Try.prog 19 #[.string s] w fun e w' => e = .returned (.tuple #[.string (ltn s).1, .bool (ltn s).2]) ∧ Below w.heap.size w w' := by
  have HW := Lib.hid (fun w => isTurnWord_any s w)
  cases hw : turnB s
  · have HY : Hid (ltn s = (⟨#[]⟩, false)) := Lib.hid (by rw [ltn, if_neg (by simp [hw])])
    rw [hw] at HW
    clear hw
    go_enter Try.func19, Try.ntmps19
    go_wp2_with fail
    refine (HW.out _).mono ?_
    rintro e w1 ⟨rfl, hb1⟩
    go_wp2_with fail
    go_ret2
    exact ⟨ret_sbt HY.out, hb1⟩
  · obtain ⟨z0, z1, hs⟩ := turnB_iff.1 hw
    have HY : Hid (ltn s = (bts (leastT s.data.toList), true)) := Lib.hid (by rw [ltn, if_pos hw])
    have HT := Lib.hid (fun w => leastTurn_any s w z1 hs)
    have HC := Lib.hid (fun w => clone_t (bts (leastT s.data.toList)) w (least_size z1))
    rw [hw] at HW
    clear hw hs
    go_enter Try.func19, Try.ntmps19
    go_wp2_with fail
    refine (HW.out _).mono ?_
    rintro e w1 ⟨rfl, hb1⟩
    go_wp2_with fail
    refine (HT.out _).mono ?_
    rintro e w2 ⟨rfl, hb2⟩
    have HB2 := Lib.hid (hb1.trans (hb2.mono hb1.size))
    clear hb2 hb1
    go_wp2_with fail
    refine (HC.out _).mono ?_
    rintro e w3 ⟨rfl, hb3⟩
    have HB3 := Lib.hid (HB2.out.trans (hb3.mono HB2.out.size))
    clear hb3
    go_wp2_with fail
    go_ret2
    exact ⟨ret_sbt HY.out, HB3.out⟩

theorem fnExactTurnWord_law (s : ByteArray) (k : Int) (hs : s.size ≤ maxLen) (hk : (Lit.int .i64 k).wf = true) (w : World) :
    Calls Try.prog 6 #[.string s, .int .i64 k] w fun e w' => e = .returned (.bool true) ∧ Below w.heap.size w w' := by
  by_cases hxs : s.size ≤ 1048576
  case neg =>
    have hys : 1048576 < (s.size : Int) := by omega
    go_enter Try.func6, Try.ntmps6
    go_wp2_with fail
    go_ret
    exact ⟨rfl, Below.refl _ _⟩
  have hys : ¬ (1048576 < (s.size : Int)) := by omega
  clear hxs hs
  go_enter Try.func6, Try.ntmps6
  go_wp2_with fail
  refine (sTurnWord s k _).mono ?_
  rintro e w1 ⟨rfl, hb1⟩
  go_wp2_with fail
  refine (iTurnWord s k _).mono ?_
  rintro e w2 ⟨rfl, hb2⟩
  have hb := hb1.trans (hb2.mono hb1.size)
  clear hb1 hb2
  go_wp2_with fail
  go_ret
  exact ⟨rfl, hb⟩
theorem fnExactLeastTurn_law (s : ByteArray) (hs : s.size ≤ maxLen) (w : World) :
    Calls Try.prog 7 #[.string s] w fun e w' => e = .returned (.bool true) ∧ Below w.heap.size w w' := by
  by_cases hxs : s.size ≤ 1048576
  case neg =>
    have hys : 1048576 < (s.size : Int) := by omega
    go_enter Try.func7, Try.ntmps7
    go_wp2_with fail
    go_ret
    exact ⟨rfl, Below.refl _ _⟩
  have hys : ¬ (1048576 < (s.size : Int)) := by omega
  clear hxs hs
  go_enter Try.func7, Try.ntmps7
  go_wp2_with fail
  refine (sLeastTurn s _).mono ?_
  rintro e w1 ⟨rfl, hb1⟩
  go_wp2_with fail
  refine (iLeastTurn s _).mono ?_
  rintro e w2 ⟨rfl, hb2⟩
  have hb := hb1.trans (hb2.mono hb1.size)
  clear hb1 hb2
  go_wp2_with fail
  go_ret
  exact ⟨rfl, hb⟩
end Go.Proofs.Ytbepnhgekbcbjaa
