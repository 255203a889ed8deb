/-
  GREATEST COMMON DIVISORS, without words: 'commonDivisor', 'lowestTerms' of the program.
-/
import Derived.Test.YtponmblponfdaaaLeaf
import Derived.RegionTactic
namespace Go.Proofs.Ytponmblponfdaaa
open Go.RowKit
set_option linter.unusedVariables false

theorem gcd_tmod (a b : Int) : Int.gcd b (a.tmod b) = Int.gcd a b := by
  unfold Int.gcd
  rw [Int.natAbs_tmod, Nat.gcd_comm b.natAbs, ← Nat.gcd_rec, Nat.gcd_comm]
theorem tmod_small {a b B : Int} (h0 : b ≠ 0) (h1 : -B ≤ b) (h2 : b ≤ B) : -B ≤ a.tmod b ∧ a.tmod b ≤ B ∧ (a.tmod b).natAbs < b.natAbs := by
  have h : (a.tmod b).natAbs < b.natAbs := by
    rw [Int.natAbs_tmod]
    exact Nat.mod_lt _ (by omega)
  omega
theorem gcd_zero (a : Int) : ((Int.gcd a 0 : Nat) : Int) = if 0 ≤ a then a else -a := by
  rw [Int.gcd_zero]
  split <;> omega
theorem gcd_pos {a b : Int} (h : b ≠ 0) : (1 : Int) ≤ (Int.gcd a b : Nat) := by
  have : Int.gcd a b ≠ 0 := by intro e; rw [Int.gcd_eq_zero_iff] at e; exact h e.2
  omega
theorem gcd_abs (a b : Int) : Int.gcd (a.natAbs : Int) b = Int.gcd a b := by unfold Int.gcd; simp
theorem gcd_le {a b B : Int} (h : 1 ≤ b) (hb : b ≤ B) : ((Int.gcd a b : Nat) : Int) ≤ B := by
  have h2 : (Int.gcd a b : Int) ∣ b := Int.gcd_dvd_right ..
  have := Int.le_of_dvd (by omega) h2
  omega
theorem gcd_neg2 (a b : Int) : Int.gcd (-a) (-b) = Int.gcd a b := by unfold Int.gcd; simp
set_option maxHeartbeats 1000000 in
theorem commonDivisor_any (a b : Int) (w : World) (a0 : -7000000000000 ≤ a) (a1 : a ≤ 7000000000000) (b0 : -7000000000000 ≤ b) (b1 : b ≤ 7000000000000) :
    Calls Try.prog 64 #[.int .i64 a, .int .i64 b] w fun e w' => e = .returned (.int .i64 (Int.gcd a b : Nat)) ∧ Below w.heap.size w w' := by
  have HA := Lib.hid (And.intro (And.intro a0 a1) (And.intro b0 b1))
  clear a0 a1 b0 b1
  go_enter Try.func64, Try.ntmps64
  go_wp2
  go_loopw [0, 1] (fun x y wr => ∃ u v : Int, x = .int .i64 u ∧ y = .int .i64 v ∧ Int.gcd u v = Int.gcd a b ∧ -7000000000000 ≤ u ∧ u ≤ 7000000000000 ∧ -7000000000000 ≤ v ∧ v ≤ 7000000000000 ∧ Below w.heap.size w wr) (fun _ y _ => (intOf y).natAbs)
  case atStart => exact ⟨a, b, rfl, rfl, rfl, HA.out.1.1, HA.out.1.2, HA.out.2.1, HA.out.2.2, Below.refl _ _⟩
  case round =>
    obtain ⟨u, v, rfl, rfl, hg, u0, u1, v0, v1, hbel⟩ := hrel
    have HB := Lib.hid hbel
    have HGC := Lib.hid hg
    clear hg hbel
    by_cases hv : v = 0
    · subst hv
      have hgz := gcd_zero u
      by_cases hu : 0 ≤ u
      · rw [if_pos hu] at hgz
        have HGZ := Lib.hid hgz
        have hmx : -u ≤ u := by omega
        clear hgz
        go_wp2
        go_ret
        refine ⟨ret_int ?_, HB.out⟩
        rw [← HGC.out, HGZ.out]
      · rw [if_neg hu] at hgz
        have HGZ := Lib.hid hgz
        clear hgz
        go_wp2
        go_ret
        refine ⟨ret_int ?_, HB.out⟩
        rw [← HGC.out, HGZ.out]
    · obtain ⟨m0, m1, m2⟩ := tmod_small (a := u) hv v0 v1
      have HT := Lib.hid ((gcd_tmod u v).trans HGC.out)
      have HM := Lib.hid m2
      have HM0 := Lib.hid (And.intro m0 m1)
      have hv1 : (v != 0) = true := by simpa using hv
      have hv2 : (v == 0) = false := by simpa using hv
      clear m2 m0 m1
      go_wp2
      go_region
      go_wp2
      exact ⟨⟨v, u.tmod v, rfl, rfl, HT.out, v0, v1, HM0.out.1, HM0.out.2, HB.out.drew⟩, by simpa [intOf] using HM.out⟩

theorem tdiv_small {a g B : Int} (h0 : -B ≤ a) (h1 : a ≤ B) : -B ≤ a.tdiv g ∧ a.tdiv g ≤ B := by
  have : (a.tdiv g).natAbs ≤ a.natAbs := by rw [Int.natAbs_tdiv]; exact Nat.div_le_self _ _
  omega
/-- In lowest terms, the denominator greater than 0. -/
def lowT (a b : Int) : Int × Int := if b < 0 then ((-a).tdiv (Int.gcd a b), (-b).tdiv (Int.gcd a b)) else (a.tdiv (Int.gcd a b), b.tdiv (Int.gcd a b))
theorem ret_2i {x : Int × Int} {a b : Int} (h : x = (a, b)) : Ending.returned (.tuple #[.int .i64 a, .int .i64 b]) = .returned (.tuple #[.int .i64 x.1, .int .i64 x.2]) := by rw [h]

set_option maxHeartbeats 1000000 in
theorem lowestTerms_any (a b : Int) (w : World) (h0 : b ≠ 0) (a0 : -7000000000000 ≤ a) (a1 : a ≤ 7000000000000) (b0 : -7000000000000 ≤ b) (b1 : b ≤ 7000000000000) :
    Calls Try.prog 46 #[.int .i64 a, .int .i64 b] w fun e w' => e = .returned (.tuple #[.int .i64 (lowT a b).1, .int .i64 (lowT a b).2]) ∧ Below w.heap.size w w' := by
  have hgp := gcd_pos (a := a) h0
  by_cases hb : b < 0
  · have HY : Hid (lowT a b = ((-a).tdiv (Int.gcd a b), (-b).tdiv (Int.gcd a b))) := Lib.hid (by rw [lowT, if_pos hb])
    have HC := Lib.hid (fun w => commonDivisor_any (-a) (-b) w (by omega) (by omega) (by omega) (by omega))
    rw [gcd_neg2] at HC
    have hgl := gcd_le (a := -a) (b := -b) (B := 7000000000000) (by omega) (by omega)
    rw [gcd_neg2] at hgl
    generalize ((Int.gcd a b : Nat) : Int) = g at HY HC hgp hgl
    have hg2 : (g == 0) = false := by simp; omega
    obtain ⟨q1, q2⟩ := tdiv_small (g := g) a0 a1
    obtain ⟨q3, q4⟩ := tdiv_small (g := g) b0 b1
    go_enter Try.func46, Try.ntmps46
    go_wp2_with fail
    refine (HC.out _).mono ?_
    rintro e w1 ⟨rfl, hb1⟩
    go_wp2_with fail
    go_region
    go_wp2_with fail
    go_ret2
    exact ⟨ret_2i (by rw [HY.out, Int.neg_tdiv, Int.neg_tdiv]), hb1.drew⟩
  · have HY : Hid (lowT a b = (a.tdiv (Int.gcd a b), b.tdiv (Int.gcd a b))) := Lib.hid (by rw [lowT, if_neg hb])
    have HC := Lib.hid (fun w => commonDivisor_any a b w (by omega) (by omega) (by omega) (by omega))
    have hgl := gcd_le (a := a) (b := b) (B := 7000000000000) (by omega) (by omega)
    generalize ((Int.gcd a b : Nat) : Int) = g at HY HC hgp hgl
    have hg2 : (g == 0) = false := by simp; omega
    obtain ⟨q1, q2⟩ := tdiv_small (g := g) a0 a1
    obtain ⟨q3, q4⟩ := tdiv_small (g := g) b0 b1
    go_enter Try.func46, Try.ntmps46
    go_wp2_with fail
    refine (HC.out _).mono ?_
    rintro e w1 ⟨rfl, hb1⟩
    go_wp2_with fail
    go_region
    go_wp2_with fail
    go_ret2
    exact ⟨ret_2i (by rw [HY.out, Int.tdiv_eq_ediv_of_nonneg (a := b) (by omega)]), hb1.drew⟩
end Go.Proofs.Ytponmblponfdaaa
