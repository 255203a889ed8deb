/-
  THE WORDS OF CHAPTER 3, of the model and of the program.
-/
import Derived.Test.YtnhpoefhcngoaaaDoorWordR
import Derived.Test.YtnhpoefhcngoaaaDoorCyM
import Derived.Lib.OthersKept
import Derived.IntWalk
import Derived.Outline
namespace Go.Proofs.YtnhpoefhcngoaaaDoor
open Go.RowKit
set_option linter.unusedVariables false

theorem run_at (w : World) (s : ByteArray) (k : Nat) (hk : k < s.size) : (Instr.index 9 (.string s) (.int .i64 (k : Int))).run Tryd.prog w = .ok (.int .u8 (s[k].toNat : Nat)) w := by
  rw [run_index_string w 9 s .i64 k Tryd.underlying9, dif_pos ⟨by omega, by omega⟩]
  rfl
/-- Is it a word of 1 to 10 signs? -/
def turnB (s : ByteArray) : Bool := inB s.size 1 10 && wordB s
theorem turnB_iff {s : ByteArray} : turnB s = true ↔ 1 ≤ s.size ∧ s.size ≤ 10 ∧ Signs s.data.toList := by
  unfold turnB inB
  rw [Bool.and_eq_true, decide_eq_true_eq, wordB_iff]
  constructor
  · rintro ⟨⟨h1, h2⟩, h3, h4⟩; exact ⟨by omega, by omega, h4⟩
  · rintro ⟨h1, h2, h4⟩; exact ⟨⟨by omega, by omega⟩, by omega, h4⟩
theorem isTurnLength_any (k : Int) (w : World) :
    Calls Tryd.prog 37 #[.int .i64 k] w fun e w' => e = .returned (.bool (inB k 1 10)) ∧ w = w' := by
  by_cases h1 : 1 ≤ k <;> by_cases h2 : k ≤ 10
  all_goals
    go_enter Tryd.func37, Tryd.ntmps37
    go_wp2
    go_ret
    simp [inB, *]
theorem isTurnWord_any (s : ByteArray) (w : World) :
    Calls Tryd.prog 26 #[.string s] w fun e w' => e = .returned (.bool (turnB s)) ∧ Below w.heap.size w w' := by
  have HL := Lib.hid (fun w => isTurnLength_any s.size w)
  by_cases hi : inB s.size 1 10 = true
  · have HA : Hid (turnB s = wordB s) := Lib.hid (by rw [turnB, hi]; rfl)
    rw [hi] at HL
    clear hi
    go_enter Tryd.func26, Tryd.ntmps26
    go_wp2_with (go_at_call 37; refine (HL.out _).mono ?_; rintro e w' ⟨rfl, rfl⟩)
    refine (isWord_any s _).mono ?_
    rintro e w2 ⟨rfl, hb2⟩
    go_wp2_with fail
    go_ret
    exact ⟨ret_bool HA.out.symm, hb2⟩
  · have hi' : inB s.size 1 10 = false := by simpa using hi
    have HA : Hid (turnB s = false) := Lib.hid (by rw [turnB, hi']; rfl)
    rw [hi'] at HL
    clear hi hi'
    go_enter Tryd.func26, Tryd.ntmps26
    go_wp2_with (go_at_call 37; refine (HL.out _).mono ?_; rintro e w' ⟨rfl, rfl⟩)
    go_ret
    exact ⟨ret_bool HA.out.symm, Below.refl _ _⟩
theorem turnB_yes {s : ByteArray} (hi : inB s.size 1 10 = true) (hl : s.size ≤ 15) (h : UpTo s s.size) : turnB s = true := by rw [turnB, hi, wordB_yes hl h]; rfl

set_option maxHeartbeats 1000000 in
theorem cyWord_any (s : ByteArray) (w : World) :
    Calls Tryd.prog 28 #[.string s] w fun e w' => e = .returned (.bool (turnB s)) ∧ w = w' := by
  have HL := Lib.hid (fun w => l1In_any s.size 1 10 w)
  by_cases hi : inB s.size 1 10 = true
  · have hz : (1 : Int) ≤ s.size ∧ (s.size : Int) ≤ 10 := by simpa [inB] using hi
    obtain ⟨hz1, hz2⟩ := hz
    have HI := Lib.hid hi
    rw [hi] at HL
    clear hi
    go_enter Tryd.func28, Tryd.ntmps28
    go_wp2_with (go_at_call 39; refine (HL.out _).mono ?_; rintro e w' ⟨rfl, rfl⟩)
    go_loop [3] (fun i => ∃ pos : Nat, pos ≤ s.size ∧ i = .int .i64 pos ∧ UpTo s pos) (fun i => s.size - (intOf i).toNat)
    case atStart => exact ⟨0, Nat.zero_le _, rfl, upTo_zero s⟩
    case round =>
      obtain ⟨pos, hp, rfl, hu⟩ := hrel
      have HU := Lib.hid hu
      clear hu
      by_cases hlt : pos < s.size
      · have hix := run_at w s pos hlt
        have hlt2 : (pos : Int) < s.size := by omega
        by_cases h1 : s[pos] = 111
        · have n1 : s[pos].toNat = 111 := by rw [h1]; rfl
          have H1 := Lib.hid h1
          rw [n1] at hix
          clear h1 n1
          go_wp2
          exact ⟨⟨pos + 1, hlt, by go_num, upTo_succ HU.out hlt (.inl H1.out)⟩, by simp [intOf]; omega⟩
        · by_cases h2 : s[pos] = 101
          · have n1 : s[pos].toNat = 101 := by rw [h2]; rfl
            have H2 := Lib.hid h2
            rw [n1] at hix
            clear h1 h2 n1
            go_wp2
            exact ⟨⟨pos + 1, hlt, by go_num, upTo_succ HU.out hlt (.inr H2.out)⟩, by simp [intOf]; omega⟩
          · have HW : Hid (turnB s = false) := Lib.hid (by rw [turnB, wordB_no hlt h1 h2, Bool.and_false])
            have n1 : ((s[pos].toNat : Int) != 111) = true := by simpa using fun e : (s[pos].toNat : Int) = 111 => u8_ne h1 (by have : (111 : UInt8).toNat = 111 := rfl; omega)
            have n2 : ((s[pos].toNat : Int) != 101) = true := by simpa using fun e : (s[pos].toNat : Int) = 101 => u8_ne h2 (by have : (101 : UInt8).toNat = 101 := rfl; omega)
            obtain ⟨c, hc⟩ : ∃ c : Int, (s[pos].toNat : Int) = c := ⟨_, rfl⟩
            rw [hc] at hix n1 n2
            clear h1 h2 hc
            go_wp2
            go_ret
            exact ⟨ret_bool HW.out.symm, rfl⟩
      · obtain rfl : pos = s.size := by omega
        have HW := Lib.hid (turnB_yes HI.out (by omega) HU.out)
        have hlt2 : ¬ ((s.size : Int) < s.size) := by omega
        go_wp2
        go_ret
        exact ⟨ret_bool HW.out.symm, rfl⟩
  · have hi' : inB s.size 1 10 = false := by simpa using hi
    have HA : Hid (turnB s = false) := Lib.hid (by rw [turnB, hi']; rfl)
    rw [hi'] at HL
    clear hi hi'
    go_enter Tryd.func28, Tryd.ntmps28
    go_wp2_with (go_at_call 39; refine (HL.out _).mono ?_; rintro e w' ⟨rfl, rfl⟩)
    go_ret
    exact ⟨ret_bool HA.out.symm, rfl⟩
end Go.Proofs.YtnhpoefhcngoaaaDoor
