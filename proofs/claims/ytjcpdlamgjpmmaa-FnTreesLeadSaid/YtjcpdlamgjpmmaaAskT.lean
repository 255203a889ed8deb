/-
  'isLevel' of the program, 'trAsked' of the model.
-/
import Derived.Test.YtjcpdlamgjpmmaaTreeB
import Derived.Test.YtjcpdlamgjpmmaaOwn
namespace Go.Proofs.Ytjcpdlamgjpmmaa
open Go.RowKit
set_option linter.unusedVariables false

theorem isLevel_any (k : Int) (w : World) :
    Calls Try.prog 32 #[.int .i64 k] w fun e w' => e = .returned (.bool (inB k 0 20)) ∧ w = w' := by
  by_cases h1 : 0 ≤ k <;> by_cases h2 : k ≤ 20
  all_goals
    go_enter Try.func32, Try.ntmps32
    go_wp2
    go_ret
    simp [inB, *]
/-- Are there a map, a number and a level? -/
def askT (t p r k : Int) : Bool := goodB t p && numB r && inB k 0 20
theorem trAsked_any (t p r k : Int) (w : World) :
    Calls Try.prog 35 #[.agg #[.int .i64 t, .int .i64 p], .int .i64 r, .int .i64 k] w fun e w' => e = .returned (.bool (askT t p r k)) ∧ Below w.heap.size w w' := by
  have HM := Lib.hid (fun w => mpGood_any t p w)
  have HI := Lib.hid (fun w => mpIs_any r w)
  have HL := Lib.hid (fun w => l1In_any k 0 20 w)
  cases hg : goodB t p
  · have HA : Hid (askT t p r k = false) := Lib.hid (by rw [askT, hg]; rfl)
    rw [hg] at HM
    clear hg
    go_enter Try.func35, Try.ntmps35
    go_wp2_with fail
    refine (HM.out _).mono ?_
    rintro e w1 ⟨rfl, hb1⟩
    obtain ⟨c0, c1, hz, hb⟩ := map_block hb1
    clear hb1
    go_wp2_with fail
    go_ret
    exact ⟨ret_bool HA.out.symm, hb⟩
  · rw [hg] at HM
    cases hn : numB r
    · have HA : Hid (askT t p r k = false) := Lib.hid (by rw [askT, hn, Bool.and_false]; rfl)
      rw [hn] at HI
      clear hg hn
      go_enter Try.func35, Try.ntmps35
      go_wp2_with fail
      refine (HM.out _).mono ?_
      rintro e w1 ⟨rfl, hb1⟩
      obtain ⟨c0, c1, hz, hb⟩ := map_block hb1
      clear hb1
      go_wp2_with (go_at_call 36; refine (HI.out _).mono ?_; rintro e w' ⟨rfl, rfl⟩)
      go_ret
      exact ⟨ret_bool HA.out.symm, hb⟩
    · have HA : Hid (askT t p r k = inB k 0 20) := Lib.hid (by rw [askT, hg, hn]; rfl)
      rw [hn] at HI
      clear hg hn
      go_enter Try.func35, Try.ntmps35
      go_wp2_with fail
      refine (HM.out _).mono ?_
      rintro e w1 ⟨rfl, hb1⟩
      obtain ⟨c0, c1, hz, hb⟩ := map_block hb1
      clear hb1
      go_wp2_with (first
        | (go_at_call 36; refine (HI.out _).mono ?_; rintro e w' ⟨rfl, rfl⟩)
        | (go_at_call 60; refine (HL.out _).mono ?_; rintro e w' ⟨rfl, rfl⟩))
      go_ret
      exact ⟨ret_bool HA.out.symm, hb⟩
theorem retI_none' {xs : List Int} {ok : Bool} {w w' : World} (hx : xs = []) (ho : ok = false) (hb : Below w.heap.size w w') : RetInts xs ok w (.returned (.tuple #[.slice none 0 0, .bool false])) w' := by
  subst hx ho
  exact ⟨_, rfl, World.ownsRow_nil _ _ _ _, hb⟩
end Go.Proofs.Ytjcpdlamgjpmmaa
