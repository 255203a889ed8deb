/-
  'NumberAfter' of the model, and its law.
-/
import Derived.Test.YtebbafapcknllaaYes
import Derived.Test.YtebbafapcknllaaNum
namespace Go.Proofs.Ytebbafapcknllaa
open Go.RowKit Go.Shelf
set_option linter.unusedVariables false

set_option maxHeartbeats 1000000 in
theorem sNumberAfter (t p n k : Int) (w : World) :
    Calls Try.prog 7 #[.agg #[.int .i64 t, .int .i64 p], .int .i64 n, .int .i64 k] w fun e w' =>
      e = .returned (.tuple #[.int .i64 (aft t p (nx t p) n k).1, .bool (aft t p (nx t p) n k).2]) ∧ Below w.heap.size w w' := by
  by_cases ha : askB t p n k = true
  · obtain ⟨hg, hn, hk0, hk1⟩ := askB_iff.1 ha
    obtain ⟨K, rfl⟩ : ∃ K : Nat, k = K := ⟨k.toNat, by omega⟩
    have hK : K ≤ 1000 := by omega
    have HG := Lib.hid hg
    have HN := Lib.hid hn
    by_cases hl : allB (nx t p) n (K + 1) = true
    · have hf : aft t p (nx t p) n K = (itr (nx t p) K n, true) := by
        unfold aft
        rw [if_pos ⟨ha, by rw [Int.toNat_natCast]; exact hl⟩, Int.toNat_natCast]
      have HF := Lib.hid hf
      have HL := Lib.hid hl
      clear hf hg hn hl
      go_enter Try.func7, Try.ntmps7
      go_wp2_with (go_at_call 37; refine (mpAsked_any _ _ _ _ _).mono ?_; rintro e w1 ⟨rfl, hb1⟩; obtain ⟨c0, c1, hz, hb⟩ := map_block hb1; clear hb1)
      refine (mpPath_yes t p n K _ HG.out HN.out hK HL.out).mono ?_
      rintro e w2 ⟨g, cap, rfl, hrow, hb2⟩
      have hbb := hb.trans (hb2.mono (Nat.le_of_lt hz))
      have hc := hrow.cell (Nat.le_refl K)
      clear hrow hb2
      go_wp2_with fail
      go_ret2
      exact ⟨ret_pair HF.out, hbb⟩
    · have hl' : allB (nx t p) n (K + 1) = false := by simpa using hl
      have hf : aft t p (nx t p) n K = (0, false) := by
        unfold aft
        rw [if_neg (fun h => hl (by have := h.2; rwa [Int.toNat_natCast] at this))]
      have HF := Lib.hid hf
      have HL := Lib.hid hl'
      clear hf hg hn hl hl'
      go_enter Try.func7, Try.ntmps7
      go_wp2_with (go_at_call 37; refine (mpAsked_any _ _ _ _ _).mono ?_; rintro e w1 ⟨rfl, hb1⟩; obtain ⟨c0, c1, hz, hb⟩ := map_block hb1; clear hb1)
      refine (mpPath_no t p n K _ HG.out HN.out hK HL.out).mono ?_
      rintro e w2 ⟨rfl, hb2⟩
      have hbb := hb.trans (hb2.mono (Nat.le_of_lt hz))
      clear hb2
      go_wp2_with fail
      go_ret2
      exact ⟨ret_pair HF.out, hbb⟩
  · have ha' : askB t p n k = false := by simpa using ha
    have hf : aft t p (nx t p) n k = (0, false) := by
      unfold aft
      rw [if_neg (fun h => ha h.1)]
    have HF := Lib.hid hf
    clear hf ha
    go_enter Try.func7, Try.ntmps7
    go_wp2_with (go_at_call 37; refine (mpAsked_any _ _ _ _ _).mono ?_; rintro e w1 ⟨rfl, hb1⟩; obtain ⟨c0, c1, hz, hb⟩ := map_block hb1; clear hb1)
    go_ret2
    exact ⟨ret_pair HF.out, hb⟩
end Go.Proofs.Ytebbafapcknllaa
