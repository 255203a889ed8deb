/-
  'mpOdd' of the model, 'OddPart' of both.
-/
import Derived.Test.YtmocbkpfoddffaaDoorLeaf
namespace Go.Proofs.YtmocbkpfoddffaaDoor
open Go.RowKit
set_option linter.unusedVariables false

theorem half_even {c : Int} (h : c % 2 = 0) : c.tdiv 2 = c / 2 := by rw [Int.tdiv_eq_ediv]; split <;> omega

set_option maxHeartbeats 1000000 in
theorem mpOdd_any (n : Int) (w : World) (h0 : n ≠ 0) (h1 : -1000000000000 ≤ n) (h2 : n ≤ 1000000000000) :
    Calls Tryd.prog 33 #[.int .i64 n] w fun e w' => e = .returned (.tuple #[.int .i64 (hlv n).1, .int .i64 (hlv n).2]) ∧ w = w' := by
  go_enter Tryd.func33, Tryd.ntmps33
  go_wp2_with fail
  go_loop [0, 4] (fun a s => ∃ (c : Int) (j : Nat), a = .int .i64 c ∧ s = .int .i64 j ∧ c ≠ 0 ∧ j + c.natAbs ≤ n.natAbs ∧ (hlv n).1 = (hlv c).1 ∧ (hlv n).2 = (hlv c).2 + j) (fun a _ => (intOf a).natAbs)
  case atStart => exact ⟨n, 0, rfl, rfl, h0, by simp, rfl, by simp⟩
  case round =>
    obtain ⟨c, j, rfl, rfl, hc, hj, e1, e2⟩ := hrel
    have c1 : -1000000000000 ≤ c := by omega
    have c2 : c ≤ 1000000000000 := by omega
    have j1 : (j : Int) ≤ 1000000000000 := by omega
    have HC := Lib.hid hc
    have HJ := Lib.hid hj
    have H1 := Lib.hid e1
    have H2 := Lib.hid e2
    have H0 := Lib.hid h0
    clear hc hj e1 e2 h0
    by_cases he : c % 2 = 0
    · have ht : (c.tmod 2 == 0) = true := by rw [even_tmod]; simp [oddB, he]
      have HE := Lib.hid he
      have hs := hlv_even HC.out he
      have HS := Lib.hid hs
      clear he hs
      go_wp2
      exact ⟨⟨c / 2, j + 1, by rw [half_even HE.out], by go_num, by have := HC.out; have := HE.out; omega, by have := HC.out; have := HE.out; have := HJ.out; omega, by rw [H1.out, HS.out], by rw [H2.out, HS.out]; dsimp only; omega⟩, by simp only [intOf]; rw [half_even HE.out]; have := HC.out; have := HE.out; omega⟩
    · have ht : (c.tmod 2 == 0) = false := by rw [even_tmod]; simp [oddB]; omega
      have hs := hlv_odd he
      have e3 : (hlv n).1 = c := by rw [H1.out, hs]
      have e4 : (hlv n).2 = j := by rw [H2.out, hs]; simp
      have H3 := Lib.hid e3
      have H4 := Lib.hid e4
      clear he hs e3 e4
      go_wp2
      go_ret2
      exact ⟨by rw [H3.out, H4.out]; rfl, rfl⟩

/-- The odd part of a number, how often it is halved, and whether there is one. -/
def odp (n : Int) : Int × Int × Bool := if n ≠ 0 ∧ numB n = true then ((hlv n).1, ((hlv n).2 : Int), true) else (0, 0, false)

set_option maxHeartbeats 1000000 in
theorem iOddPart (n : Int) (w : World) :
    Calls Tryd.prog 6 #[.int .i64 n] w fun e w' => e = .returned (.tuple #[.int .i64 (odp n).1, .int .i64 (odp n).2.1, .bool (odp n).2.2]) ∧ w = w' := by
  by_cases h0 : n = 0
  · subst h0
    have ho : odp 0 = (0, 0, false) := by rw [odp, if_neg (by simp)]
    rw [ho]
    clear ho
    go_enter Tryd.func6, Tryd.ntmps6
    go_wp2_with (go_at_call 30; refine (isNumber_any _ _).mono ?_; rintro e w' ⟨rfl, rfl⟩)
    go_ret3
    exact ⟨rfl, rfl⟩
  · have hz : (n == 0) = false := by simpa using h0
    by_cases hn : numB n = true
    · have ho : odp n = ((hlv n).1, ((hlv n).2 : Int), true) := by rw [odp, if_pos ⟨h0, hn⟩]
      rw [ho]
      obtain ⟨n1, n2⟩ := numB_iff.1 hn
      have H0 := Lib.hid h0
      clear ho h0
      go_enter Tryd.func6, Tryd.ntmps6
      go_wp2_with (go_at_call 30; refine (isNumber_any _ _).mono ?_; rintro e w' ⟨rfl, rfl⟩)
      go_loopw [0, 5] (fun a s wr => wr = w ∧ ∃ (c : Int) (j : Nat), a = .int .i64 c ∧ s = .int .i64 j ∧ c ≠ 0 ∧ j + c.natAbs ≤ n.natAbs ∧ (hlv n).1 = (hlv c).1 ∧ (hlv n).2 = (hlv c).2 + j) (fun a _ _ => (intOf a).natAbs)
      case atStart => exact ⟨rfl, n, 0, rfl, rfl, H0.out, by simp, rfl, by simp⟩
      case round =>
        obtain ⟨rfl, c, j, rfl, rfl, hc, hj, e1, e2⟩ := hrel
        have c1 : -1000000000000 ≤ c := by omega
        have c2 : c ≤ 1000000000000 := by omega
        have j1 : (j : Int) ≤ 1000000000000 := by omega
        have HC := Lib.hid hc
        have HJ := Lib.hid hj
        have H1 := Lib.hid e1
        have H2 := Lib.hid e2
        clear hc hj e1 e2
        by_cases he : c % 2 = 0
        · have ht : oddB c = false := by simp [oddB, he]
          have HE := Lib.hid he
          have hs := hlv_even HC.out he
          have HS := Lib.hid hs
          clear he hs
          go_wp2_with (go_at_call 31; refine (isOdd_any _ _).mono ?_; rintro e w' ⟨rfl, rfl⟩)
          exact ⟨⟨by trivial, c / 2, j + 1, by rw [half_even HE.out], by go_num, by have := HC.out; have := HE.out; omega, by have := HC.out; have := HE.out; have := HJ.out; omega, by rw [H1.out, HS.out], by rw [H2.out, HS.out]; dsimp only; omega⟩, by simp only [intOf]; rw [half_even HE.out]; have := HC.out; have := HE.out; omega⟩
        · have ht : oddB c = true := by simp [oddB]; omega
          have hs := hlv_odd he
          have e3 : (hlv n).1 = c := by rw [H1.out, hs]
          have e4 : (hlv n).2 = j := by rw [H2.out, hs]; simp
          have H3 := Lib.hid e3
          have H4 := Lib.hid e4
          clear he hs e3 e4
          go_wp2_with (go_at_call 31; refine (isOdd_any _ _).mono ?_; rintro e w' ⟨rfl, rfl⟩)
          go_ret3
          exact ⟨by rw [H3.out, H4.out]; rfl, rfl⟩
    · have hn' : numB n = false := by simpa using hn
      have ho : odp n = (0, 0, false) := by rw [odp, if_neg (by simp [hn])]
      rw [ho]
      clear ho hn h0
      go_enter Tryd.func6, Tryd.ntmps6
      go_wp2_with (go_at_call 30; refine (isNumber_any _ _).mono ?_; rintro e w' ⟨rfl, rfl⟩)
      go_ret3
      exact ⟨rfl, rfl⟩
end Go.Proofs.YtmocbkpfoddffaaDoor
