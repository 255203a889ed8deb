/-
  ARE THERE A MAP AND A WORD: 'woAsked' of the model.
-/
import Derived.Test.YtencblbkbalmcaaWordG
namespace Go.Proofs.Ytencblbkbalmcaa
open Go.RowKit
set_option linter.unusedVariables false

/-- Are there a map and a word? -/
def askW (t p : Int) (s : ByteArray) : Bool := goodB t p && wordB s
theorem askW_iff {t p : Int} {s : ByteArray} : askW t p s = true ↔ goodB t p = true ∧ wordB s = true := by unfold askW; rw [Bool.and_eq_true]
theorem woAsked_any (t p : Int) (s : ByteArray) (w : World) :
    Calls Try.prog 16 #[.agg #[.int .i64 t, .int .i64 p], .string s] w fun e w' => e = .returned (.bool (askW t p s)) ∧ Below w.heap.size w w' := by
  by_cases hg : goodB t p = true
  · have HA : Hid (askW t p s = wordB s) := Lib.hid (by rw [askW, hg]; rfl)
    have HM := Lib.hid (fun w => mpGood_any t p w)
    rw [hg] at HM
    clear hg
    go_enter Try.func16, Try.ntmps16
    go_wp2_with fail
    refine (HM.out _).mono ?_
    rintro e w1 ⟨rfl, hb1⟩
    obtain ⟨c0, c1, hz, hb⟩ := map_block hb1
    clear hb1
    go_wp2_with fail
    refine (woWord_any s _).mono ?_
    rintro e w2 ⟨rfl, hb2⟩
    have HB := Lib.hid (hb.trans (hb2.mono (Nat.le_of_lt hz)))
    clear hb2 hb c0 c1
    go_wp2_with fail
    go_ret
    exact ⟨ret_bool HA.out.symm, HB.out⟩
  · have hg' : goodB t p = false := by simpa using hg
    have HA : Hid (askW t p s = false) := Lib.hid (by rw [askW, hg']; rfl)
    have HM := Lib.hid (fun w => mpGood_any t p w)
    rw [hg'] at HM
    clear hg hg'
    go_enter Try.func16, Try.ntmps16
    go_wp2_with fail
    refine (HM.out _).mono ?_
    rintro e w1 ⟨rfl, hb1⟩
    obtain ⟨c0, c1, hz, hb⟩ := map_block hb1
    clear hb1
    go_wp2_with fail
    go_ret
    exact ⟨ret_bool HA.out.symm, hb⟩
end Go.Proofs.Ytencblbkbalmcaa
