/-
  'NextNumber', 'ShortNext', 'NumberAfter', 'ShortAfter' of the program; 'NextNumber', 'ShortNext', 'ShortAfter' of the model.
-/
import Derived.Test.YtnhpoefhcngoaaaDoorAfter
import Derived.Test.YtnhpoefhcngoaaaDoorAft
namespace Go.Proofs.YtnhpoefhcngoaaaDoor
open Go.RowKit Go.Shelf
set_option linter.unusedVariables false

theorem found_seq (t p : Int) (f : Int → Int) (n k : Int) : found (seqOf t p f n) k = aft t p f n k := by
  unfold aft
  by_cases h : askB t p n k = true ∧ allB f n (k.toNat + 1) = true
  · rw [if_pos h]
    obtain ⟨ha, hl⟩ := h
    simp only [askB, inB, Bool.and_eq_true, decide_eq_true_eq] at ha
    have hlt : k.toNat < cntF f 1001 n := (lt_cnt _ _ _ _).2 ⟨by omega, hl⟩
    have hk : k = (k.toNat : Int) := by omega
    have hp : (upto f n k.toNat ++ [(k, itr f k.toNat n)]) <+: seqOf t p f n := by
      rw [seqOf, if_pos ha.1.1]
      have := upto_prefix f n (j := k.toNat + 1) (k := cntF f 1001 n) (by omega)
      rw [upto_succ, ← hk] at this
      exact this
    refine found_some ?_ hp
    intro x hx
    obtain ⟨j, hj, rfl⟩ := mem_upto hx
    dsimp only
    omega
  · rw [if_neg h]
    refine found_none ?_
    intro x hx hk
    unfold seqOf at hx
    split at hx
    · rename_i hg
      obtain ⟨j, hj, rfl⟩ := mem_upto hx
      have hj' := (lt_cnt _ _ _ _).1 hj
      dsimp only at hk
      obtain rfl : j = k.toNat := by omega
      refine h ⟨?_, hj'.2⟩
      have hn : numB n = true := allB_at (f := f) (n := n) (j := 0) (k := k.toNat + 1) (by omega) hj'.2
      simp only [askB, inB, Bool.and_eq_true, decide_eq_true_eq]
      exact ⟨⟨hg, hn⟩, by omega⟩
    · simp at hx

theorem iShortAfter (t p n k : Int) (w : World) :
    Calls Tryd.prog 10 #[.agg #[.int .i64 t, .int .i64 p], .int .i64 n, .int .i64 k] w fun e w' =>
      e = .returned (.tuple #[.int .i64 (aft t p (sx t p) n k).1, .bool (aft t p (sx t p) n k).2]) ∧ Below w.heap.size w w' := by
  rw [← found_seq]
  go_enter Tryd.func10, Tryd.ntmps10
  go_wp2_with fail
  refine (after_any t p n k 34 (seqOf t p (sx t p) n) (fun bw bs => iter_short bw bs t p n) _).mono ?_
  rintro e w1 ⟨rfl, hb⟩
  go_wp2_with fail
  go_ret2
  exact ⟨rfl, ((Below.refl _ w).alloc (Nat.le_refl _) _).trans (hb.mono (by simp))⟩

end Go.Proofs.YtnhpoefhcngoaaaDoor
