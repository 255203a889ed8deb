/-
  THE STEPS OF CHAPTER 1: of the model and of the program.
-/
import Derived.Test.YtbhmplccjaijjaaLeaf
namespace Go.Proofs.Ytbhmplccjaijjaa
open Go.RowKit
set_option linter.unusedVariables false

theorem mpOne_any (n : Int) (w : World) :
    Calls Try.prog 59 #[.int .i64 n] w fun e w' => e = .returned (.tuple #[.int .i64 (if numB n = true then n else 0), .bool (numB n)]) ∧ w = w' := by
  by_cases h : numB n = true
  · go_enter Try.func59, Try.ntmps59
    go_wp2_with (go_at_call 58; refine (mpIs_any _ _).mono ?_; rintro e w' ⟨rfl, rfl⟩)
    go_ret2
    exact ⟨by simp, rfl⟩
  · have h' : numB n = false := by simpa using h
    go_enter Try.func59, Try.ntmps59
    go_wp2_with (go_at_call 58; refine (mpIs_any _ _).mono ?_; rintro e w' ⟨rfl, rfl⟩)
    go_ret2
    exact ⟨by simp, rfl⟩

theorem nx_even {t p n : Int} (h : (n.tmod 2 == 0) = true) : n.tdiv 2 = nx t p n := by
  simp only [beq_iff_eq] at h
  have := tmod2 n
  unfold nx
  rw [if_pos (by omega), Int.tdiv_eq_ediv]
  split <;> omega
theorem nx_odd {t p n : Int} (h : (n.tmod 2 == 0) = false) : t * n + p = nx t p n := by
  simp only [beq_eq_false_iff_ne, ne_eq] at h
  have := tmod2 n
  unfold nx
  rw [if_neg (by omega)]
theorem sx_even {t p n : Int} (h : (n.tmod 2 == 0) = true) : n.tdiv 2 = sx t p n := by
  rw [nx_even (t := t) (p := p) h]
  simp only [beq_iff_eq] at h
  have := tmod2 n
  unfold nx sx
  rw [if_pos (by omega), if_pos (by omega)]
theorem sx_odd {t p n : Int} (ht : t % 2 = 1) (hp : p % 2 = 1) (h : (n.tmod 2 == 0) = false) : (t * n + p).tdiv 2 = sx t p n := by
  simp only [beq_eq_false_iff_ne, ne_eq] at h
  have := tmod2 n
  have := odd_even ht hp (n := n) (by omega)
  unfold sx
  rw [if_neg (by omega), Int.tdiv_eq_ediv]
  split <;> omega


/-- Are there a map, a number, and steps? -/
def askB (t p n k : Int) : Bool := goodB t p && numB n && inB k 0 1000
end Go.Proofs.Ytbhmplccjaijjaa
