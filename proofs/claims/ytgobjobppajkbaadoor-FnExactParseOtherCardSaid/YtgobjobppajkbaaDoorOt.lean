/-
  'omGood' of the model, 'IsOther' of the program.
-/
import Derived.Test.YtgobjobppajkbaaDoorPt
import Derived.RegionTactic
import Derived.WalkSmall
namespace Go.Proofs.YtgobjobppajkbaaDoor
open Go.RowKit
set_option linter.unusedVariables false

theorem mul_small {t r : Int} (h1 : 1 ≤ t) (h2 : t ≤ 20) (h3 : 0 ≤ r) (h4 : r ≤ 16) : 0 ≤ t * r ∧ t * r ≤ 320 :=
  ⟨Int.mul_nonneg (by omega) h3, Int.le_trans (Int.mul_le_mul h2 h4 h3 (by omega)) (by omega)⟩

set_option maxHeartbeats 2000000 in
theorem omPart_any (t p o r m : Int) (w : World) (hr0 : 0 ≤ r) (hr1 : r ≤ 8) (hm0 : 0 ≤ m) (hm1 : m ≤ 8) :
    Calls Tryd.prog 120 #[.agg #[.int .i64 t, .int .i64 p, .int .i64 o], .int .i64 r, .int .i64 m] w fun e w' => e = .returned (.bool (ptOk (t, p, o) r m)) ∧ Below w.heap.size w w' := by
  have HB := Lib.hid (fun X => (Below.refl w.heap.size w).alloc (Nat.le_refl _) X)
  by_cases h1 : inB t 1 20 = true
  case neg =>
    have h1' : inB t 1 20 = false := by simpa using h1
    have HE : Hid (ptOk (t, p, o) r m = false) := Lib.hid (by
      rw [Bool.eq_false_iff]; intro e; have := ptIn_iff.1 (ptOk_iff.1 e).1; simp [inB] at h1; dsimp only at this; omega)
    clear h1
    go_enter Tryd.func120, Tryd.ntmps120
    go_wp2_with (go_at_call 72; refine (l1In_any _ _ _ _).mono ?_; rintro e w' ⟨rfl, rfl⟩)
    go_ret
    exact ⟨ret_bool HE.out.symm, HB.out _⟩
  by_cases h2 : inB p (-20) 20 = true
  case neg =>
    have h2' : inB p (-20) 20 = false := by simpa using h2
    have HE : Hid (ptOk (t, p, o) r m = false) := Lib.hid (by
      rw [Bool.eq_false_iff]; intro e; have := ptIn_iff.1 (ptOk_iff.1 e).1; simp [inB] at h2; dsimp only at this; omega)
    clear h2
    go_enter Tryd.func120, Tryd.ntmps120
    go_wp2_with (go_at_call 72; refine (l1In_any _ _ _ _).mono ?_; rintro e w' ⟨rfl, rfl⟩)
    go_ret
    exact ⟨ret_bool HE.out.symm, HB.out _⟩
  by_cases h3 : inB o 1 20 = true
  case neg =>
    have h3' : inB o 1 20 = false := by simpa using h3
    have HE : Hid (ptOk (t, p, o) r m = false) := Lib.hid (by
      rw [Bool.eq_false_iff]; intro e; have := ptIn_iff.1 (ptOk_iff.1 e).1; simp [inB] at h3; dsimp only at this; omega)
    clear h3
    go_enter Tryd.func120, Tryd.ntmps120
    go_wp2_with (go_at_call 72; refine (l1In_any _ _ _ _).mono ?_; rintro e w' ⟨rfl, rfl⟩)
    go_ret
    exact ⟨ret_bool HE.out.symm, HB.out _⟩
  have hin : ptIn (t, p, o) = true := ptIn_iff.2 (by simp [inB] at h1 h2 h3; dsimp only; omega)
  obtain ⟨i1, i2, i3, i4, i5, i6⟩ := ptIn_iff.1 hin
  dsimp only at i1 i2 i3 i4 i5 i6
  obtain ⟨m1, m2⟩ := mul_small i1 i2 hr0 (show r ≤ 16 by omega)
  obtain ⟨m3, m4⟩ := mul_small i1 i2 hm0 (show m ≤ 16 by omega)
  have ho : (o == 0) = false := by simp; omega
  have HE : Hid (ptOk (t, p, o) r m = (decide ((t * r + p).tmod o = 0) && decide ((t * m).tmod o = 0))) := Lib.hid (by
    unfold ptOk; rw [hin, Bool.true_and]; simp only [tmod_zero_iff])
  obtain ⟨x, hx⟩ : ∃ x, t * r = x := ⟨_, rfl⟩
  obtain ⟨y, hy⟩ : ∃ y, t * m = y := ⟨_, rfl⟩
  rw [hx] at m1 m2 HE
  rw [hy] at m3 m4 HE
  clear hin
  by_cases e1 : (x + p).tmod o = 0
  · by_cases e2 : y.tmod o = 0
    · have HR : Hid (ptOk (t, p, o) r m = true) := Lib.hid (by rw [HE.out]; simp [e1, e2])
      have e3 : y % o = 0 := (tmod_zero_iff _ _).1 e2
      clear HE
      go_enter Tryd.func120, Tryd.ntmps120
      go_wp2_with (go_at_call 72; refine (l1In_any _ _ _ _).mono ?_; rintro e w' ⟨rfl, rfl⟩)
      go_ret
      exact ⟨ret_bool HR.out.symm, HB.out _⟩
    · have HR : Hid (ptOk (t, p, o) r m = false) := Lib.hid (by rw [HE.out]; simp [e1, e2])
      have e3 : ¬ y % o = 0 := fun e => e2 ((tmod_zero_iff _ _).2 e)
      have e4 : (y % o == 0) = false := by simp [e3]
      clear HE
      go_enter Tryd.func120, Tryd.ntmps120
      go_wp2_with (go_at_call 72; refine (l1In_any _ _ _ _).mono ?_; rintro e w' ⟨rfl, rfl⟩)
      go_ret
      exact ⟨ret_bool HR.out.symm, HB.out _⟩
  · have HR : Hid (ptOk (t, p, o) r m = false) := Lib.hid (by rw [HE.out]; simp [e1])
    clear HE
    go_enter Tryd.func120, Tryd.ntmps120
    go_wp2_with (go_at_call 72; refine (l1In_any _ _ _ _).mono ?_; rintro e w' ⟨rfl, rfl⟩)
    go_ret
    exact ⟨ret_bool HR.out.symm, HB.out _⟩

set_option maxHeartbeats 2000000 in
theorem isBeyond_any (t p o : Int) (w : World) :
    Calls Tryd.prog 122 #[.agg #[.int .i64 t, .int .i64 p, .int .i64 o]] w fun e w' => e = .returned (.bool (!ptIn (t, p, o))) ∧ Below w.heap.size w w' := by
  have HB := Lib.hid (fun X => (Below.refl w.heap.size w).alloc (Nat.le_refl _) X)
  go_enter Tryd.func122, Tryd.ntmps122
  go_wp2_with fail
  all_goals
    go_ret
    refine ⟨ret_bool ?_, HB.out _⟩
    rw [Bool.eq_iff_iff]
    simp [ptIn]
    try omega

set_option maxHeartbeats 2000000 in
theorem isWholeFor_any (t p o n : Int) (w : World) (hin : ptIn (t, p, o) = true) (h0 : 0 ≤ n) (h1 : n ≤ 16) :
    Calls Tryd.prog 123 #[.agg #[.int .i64 t, .int .i64 p, .int .i64 o], .int .i64 n] w fun e w' => e = .returned (.bool (decide ((t * n + p) % o = 0))) ∧ Below w.heap.size w w' := by
  have HB := Lib.hid (fun X => (Below.refl w.heap.size w).alloc (Nat.le_refl _) X)
  obtain ⟨i1, i2, i3, i4, i5, i6⟩ := ptIn_iff.1 hin
  dsimp only at i1 i2 i3 i4 i5 i6
  obtain ⟨m1, m2⟩ := mul_small i1 i2 h0 h1
  have ho : (o == 0) = false := by simp; omega
  have HE : Hid (decide ((t * n + p) % o = 0) = ((t * n + p).tmod o == 0)) := Lib.hid (tmod_zero_b _ _).symm
  obtain ⟨x, hx⟩ : ∃ x, t * n = x := ⟨_, rfl⟩
  rw [hx] at m1 m2 HE
  rw [hx]
  rw [HE.out]
  clear hin HE
  go_enter Tryd.func123, Tryd.ntmps123
  go_wp2_with fail
  go_ret
  exact ⟨rfl, HB.out _⟩
end Go.Proofs.YtgobjobppajkbaaDoor
