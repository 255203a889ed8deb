/-
  THE WORDS OF CHAPTER 3, of the model and of the program.
-/
import Derived.Test.YtbepnhgekbcbjaaDoorWordG
import Derived.Test.YtbepnhgekbcbjaaDoorCyM
import Derived.Lib.OthersKept
import Derived.IntWalk
import Derived.Outline
namespace Go.Proofs.YtbepnhgekbcbjaaDoor
open Go.RowKit
set_option linter.unusedVariables false

theorem run_at (w : World) (s : ByteArray) (k : Nat) (hk : k < s.size) : (Instr.index 9 (.string s) (.int .i64 (k : Int))).run Tryd.prog w = .ok (.int .u8 (s[k].toNat : Nat)) w := by
  rw [run_index_string w 9 s .i64 k Tryd.underlying9, dif_pos ⟨by omega, by omega⟩]
  rfl
/-- Is it a word of 1 to 10 signs? -/
def turnB (s : ByteArray) : Bool := inB s.size 1 10 && wordB s
theorem turnB_iff {s : ByteArray} : turnB s = true ↔ 1 ≤ s.size ∧ s.size ≤ 10 ∧ Signs s.data.toList := by
  unfold turnB inB
  rw [Bool.and_eq_true, decide_eq_true_eq, wordB_iff]
  constructor
  · rintro ⟨⟨h1, h2⟩, h3, h4⟩; exact ⟨by omega, by omega, h4⟩
  · rintro ⟨h1, h2, h4⟩; exact ⟨⟨by omega, by omega⟩, by omega, h4⟩
theorem isTurnLength_any (k : Int) (w : World) :
    Calls Tryd.prog 20 #[.int .i64 k] w fun e w' => e = .returned (.bool (inB k 1 10)) ∧ w = w' := by
  by_cases h1 : 1 ≤ k <;> by_cases h2 : k ≤ 10
  all_goals
    go_enter Tryd.func20, Tryd.ntmps20
    go_wp2
    go_ret
    simp [inB, *]
theorem isTurnWord_any (s : ByteArray) (w : World) :
    Calls Tryd.prog 47 #[.string s] w fun e w' => e = .returned (.bool (turnB s)) ∧ Below w.heap.size w w' := by
  have HL := Lib.hid (fun w => isTurnLength_any s.size w)
  by_cases hi : inB s.size 1 10 = true
  · have HA : Hid (turnB s = wordB s) := Lib.hid (by rw [turnB, hi]; rfl)
    rw [hi] at HL
    clear hi
    go_enter Tryd.func47, Tryd.ntmps47
    go_wp2_with (go_at_call 20; refine (HL.out _).mono ?_; rintro e w' ⟨rfl, rfl⟩)
    refine (isWord_any s _).mono ?_
    rintro e w2 ⟨rfl, hb2⟩
    go_wp2_with fail
    go_ret
    exact ⟨ret_bool HA.out.symm, hb2⟩
  · have hi' : inB s.size 1 10 = false := by simpa using hi
    have HA : Hid (turnB s = false) := Lib.hid (by rw [turnB, hi']; rfl)
    rw [hi'] at HL
    clear hi hi'
    go_enter Tryd.func47, Tryd.ntmps47
    go_wp2_with (go_at_call 20; refine (HL.out _).mono ?_; rintro e w' ⟨rfl, rfl⟩)
    go_ret
    exact ⟨ret_bool HA.out.symm, Below.refl _ _⟩
theorem turnB_yes {s : ByteArray} (hi : inB s.size 1 10 = true) (hl : s.size ≤ 15) (h : UpTo s s.size) : turnB s = true := by rw [turnB, hi, wordB_yes hl h]; rfl

end Go.Proofs.YtbepnhgekbcbjaaDoor
