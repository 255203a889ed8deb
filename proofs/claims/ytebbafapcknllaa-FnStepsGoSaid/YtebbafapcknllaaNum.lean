/-
  'NextNumber', 'ShortNext', 'NumberAfter', 'ShortAfter' of the program; 'NextNumber', 'ShortNext', 'ShortAfter' of the model.
-/
import Derived.Test.YtebbafapcknllaaAfter
import Derived.Test.YtebbafapcknllaaAft
namespace Go.Proofs.Ytebbafapcknllaa
open Go.RowKit Go.Shelf
set_option linter.unusedVariables false

theorem found_seq (t p : Int) (f : Int → Int) (n k : Int) : found (seqOf t p f n) k = aft t p f n k := by
  unfold aft
  by_cases h : askB t p n k = true ∧ allB f n (k.toNat + 1) = true
  · rw [if_pos h]
    obtain ⟨ha, hl⟩ := h
    simp only [askB, inB, Bool.and_eq_true, decide_eq_true_eq] at ha
    have hlt : k.toNat < cntF f 1001 n := (lt_cnt _ _ _ _).2 ⟨by omega, hl⟩
    have hk : k = (k.toNat : Int) := by omega
    have hp : (upto f n k.toNat ++ [(k, itr f k.toNat n)]) <+: seqOf t p f n := by
      rw [seqOf, if_pos ha.1.1]
      have := upto_prefix f n (j := k.toNat + 1) (k := cntF f 1001 n) (by omega)
      rw [upto_succ, ← hk] at this
      exact this
    refine found_some ?_ hp
    intro x hx
    obtain ⟨j, hj, rfl⟩ := mem_upto hx
    dsimp only
    omega
  · rw [if_neg h]
    refine found_none ?_
    intro x hx hk
    unfold seqOf at hx
    split at hx
    · rename_i hg
      obtain ⟨j, hj, rfl⟩ := mem_upto hx
      have hj' := (lt_cnt _ _ _ _).1 hj
      dsimp only at hk
      obtain rfl : j = k.toNat := by omega
      refine h ⟨?_, hj'.2⟩
      have hn : numB n = true := allB_at (f := f) (n := n) (j := 0) (k := k.toNat + 1) (by omega) hj'.2
      simp only [askB, inB, Bool.and_eq_true, decide_eq_true_eq]
      exact ⟨⟨hg, hn⟩, by omega⟩
    · simp at hx

theorem iNumberAfter (t p n k : Int) (w : World) :
    Calls Try.prog 6 #[.agg #[.int .i64 t, .int .i64 p], .int .i64 n, .int .i64 k] w fun e w' =>
      e = .returned (.tuple #[.int .i64 (aft t p (nx t p) n k).1, .bool (aft t p (nx t p) n k).2]) ∧ Below w.heap.size w w' := by
  rw [← found_seq]
  go_enter Try.func6, Try.ntmps6
  go_wp2_with fail
  refine (after_any t p n k 36 (seqOf t p (nx t p) n) (fun bw bs => iter_step bw bs t p n) _).mono ?_
  rintro e w1 ⟨rfl, hb⟩
  go_wp2_with fail
  go_ret2
  exact ⟨rfl, ((Below.refl _ w).alloc (Nat.le_refl _) _).trans (hb.mono (by simp))⟩

theorem iShortAfter (t p n k : Int) (w : World) :
    Calls Try.prog 32 #[.agg #[.int .i64 t, .int .i64 p], .int .i64 n, .int .i64 k] w fun e w' =>
      e = .returned (.tuple #[.int .i64 (aft t p (sx t p) n k).1, .bool (aft t p (sx t p) n k).2]) ∧ Below w.heap.size w w' := by
  rw [← found_seq]
  go_enter Try.func32, Try.ntmps32
  go_wp2_with fail
  refine (after_any t p n k 55 (seqOf t p (sx t p) n) (fun bw bs => iter_short bw bs t p n) _).mono ?_
  rintro e w1 ⟨rfl, hb⟩
  go_wp2_with fail
  go_ret2
  exact ⟨rfl, ((Below.refl _ w).alloc (Nat.le_refl _) _).trans (hb.mono (by simp))⟩

theorem iNextNumber (t p n : Int) (w : World) :
    Calls Try.prog 23 #[.agg #[.int .i64 t, .int .i64 p], .int .i64 n] w fun e w' =>
      e = .returned (.tuple #[.int .i64 (aft t p (nx t p) n 1).1, .bool (aft t p (nx t p) n 1).2]) ∧ Below w.heap.size w w' := by
  go_enter Try.func23, Try.ntmps23
  go_wp2_with fail
  refine (iNumberAfter t p n 1 _).mono ?_
  rintro e w1 ⟨rfl, hb⟩
  go_wp2_with fail
  go_ret2
  exact ⟨rfl, ((Below.refl _ w).alloc (Nat.le_refl _) _).trans (hb.mono (by simp))⟩

theorem iShortNext (t p n : Int) (w : World) :
    Calls Try.prog 28 #[.agg #[.int .i64 t, .int .i64 p], .int .i64 n] w fun e w' =>
      e = .returned (.tuple #[.int .i64 (aft t p (sx t p) n 1).1, .bool (aft t p (sx t p) n 1).2]) ∧ Below w.heap.size w w' := by
  go_enter Try.func28, Try.ntmps28
  go_wp2_with fail
  refine (iShortAfter t p n 1 _).mono ?_
  rintro e w1 ⟨rfl, hb⟩
  go_wp2_with fail
  go_ret2
  exact ⟨rfl, ((Below.refl _ w).alloc (Nat.le_refl _) _).trans (hb.mono (by simp))⟩

theorem sNextNumber (t p n : Int) (w : World) :
    Calls Try.prog 30 #[.agg #[.int .i64 t, .int .i64 p], .int .i64 n] w fun e w' =>
      e = .returned (.tuple #[.int .i64 (aft t p (nx t p) n 1).1, .bool (aft t p (nx t p) n 1).2]) ∧ Below w.heap.size w w' := by
  by_cases hg : goodB t p = true
  · by_cases hn : numB n = true
    · rw [aft_one hg hn]
      have HG := Lib.hid hg
      have HN := Lib.hid hn
      go_enter Try.func30, Try.ntmps30
      go_wp2_with (first | (go_at_call 49; refine (mpGood_any _ _ _).mono ?_; rintro e w1 ⟨rfl, hb1⟩; obtain ⟨c0, c1, hz, hb⟩ := map_block hb1) | (go_at_call 52; refine (mpIs_any _ _).mono ?_; rintro e w' ⟨rfl, rfl⟩) | (go_at_call 54; refine (mpNext_any _ _ _ _ HG.out HN.out).mono ?_; rintro e w2 ⟨rfl, hb2⟩) | (go_at_call 47; refine (mpOne_any _ _).mono ?_; rintro e w' ⟨rfl, rfl⟩))
      all_goals
        go_ret2
        exact ⟨by simp [*], hb.trans (hb2.mono (by omega))⟩
    · have hn' : numB n = false := by simpa using hn
      rw [aft_not (.inr hn')]
      go_enter Try.func30, Try.ntmps30
      go_wp2_with (first | (go_at_call 49; refine (mpGood_any _ _ _).mono ?_; rintro e w1 ⟨rfl, hb1⟩; obtain ⟨c0, c1, hz, hb⟩ := map_block hb1) | (go_at_call 52; refine (mpIs_any _ _).mono ?_; rintro e w' ⟨rfl, rfl⟩))
      go_ret2
      exact ⟨rfl, hb⟩
  · have hg' : goodB t p = false := by simpa using hg
    rw [aft_not (.inl hg')]
    go_enter Try.func30, Try.ntmps30
    go_wp2_with (go_at_call 49; refine (mpGood_any _ _ _).mono ?_; rintro e w1 ⟨rfl, hb1⟩; obtain ⟨c0, c1, hz, hb⟩ := map_block hb1)
    go_ret2
    exact ⟨rfl, hb⟩

theorem sShortNext (t p n : Int) (w : World) :
    Calls Try.prog 29 #[.agg #[.int .i64 t, .int .i64 p], .int .i64 n] w fun e w' =>
      e = .returned (.tuple #[.int .i64 (aft t p (sx t p) n 1).1, .bool (aft t p (sx t p) n 1).2]) ∧ Below w.heap.size w w' := by
  by_cases hg : goodB t p = true
  · by_cases hn : numB n = true
    · rw [aft_one hg hn]
      have HG := Lib.hid hg
      have HN := Lib.hid hn
      go_enter Try.func29, Try.ntmps29
      go_wp2_with (first | (go_at_call 49; refine (mpGood_any _ _ _).mono ?_; rintro e w1 ⟨rfl, hb1⟩; obtain ⟨c0, c1, hz, hb⟩ := map_block hb1) | (go_at_call 52; refine (mpIs_any _ _).mono ?_; rintro e w' ⟨rfl, rfl⟩) | (go_at_call 53; refine (mpShort_any _ _ _ _ HG.out HN.out).mono ?_; rintro e w2 ⟨rfl, hb2⟩) | (go_at_call 47; refine (mpOne_any _ _).mono ?_; rintro e w' ⟨rfl, rfl⟩))
      all_goals
        go_ret2
        exact ⟨by simp [*], hb.trans (hb2.mono (by omega))⟩
    · have hn' : numB n = false := by simpa using hn
      rw [aft_not (.inr hn')]
      go_enter Try.func29, Try.ntmps29
      go_wp2_with (first | (go_at_call 49; refine (mpGood_any _ _ _).mono ?_; rintro e w1 ⟨rfl, hb1⟩; obtain ⟨c0, c1, hz, hb⟩ := map_block hb1) | (go_at_call 52; refine (mpIs_any _ _).mono ?_; rintro e w' ⟨rfl, rfl⟩))
      go_ret2
      exact ⟨rfl, hb⟩
  · have hg' : goodB t p = false := by simpa using hg
    rw [aft_not (.inl hg')]
    go_enter Try.func29, Try.ntmps29
    go_wp2_with (go_at_call 49; refine (mpGood_any _ _ _).mono ?_; rintro e w1 ⟨rfl, hb1⟩; obtain ⟨c0, c1, hz, hb⟩ := map_block hb1)
    go_ret2
    exact ⟨rfl, hb⟩

end Go.Proofs.Ytebbafapcknllaa
