/-
  THE STEPS OF CHAPTER 1: of the model and of the program.
-/
import Derived.Test.YtdlofghofccekaaLeaf
namespace Go.Proofs.Ytdlofghofccekaa
open Go.RowKit
set_option linter.unusedVariables false


theorem nx_even {t p n : Int} (h : (n.tmod 2 == 0) = true) : n.tdiv 2 = nx t p n := by
  simp only [beq_iff_eq] at h
  have := tmod2 n
  unfold nx
  rw [if_pos (by omega), Int.tdiv_eq_ediv]
  split <;> omega
theorem nx_odd {t p n : Int} (h : (n.tmod 2 == 0) = false) : t * n + p = nx t p n := by
  simp only [beq_eq_false_iff_ne, ne_eq] at h
  have := tmod2 n
  unfold nx
  rw [if_neg (by omega)]
theorem sx_even {t p n : Int} (h : (n.tmod 2 == 0) = true) : n.tdiv 2 = sx t p n := by
  rw [nx_even (t := t) (p := p) h]
  simp only [beq_iff_eq] at h
  have := tmod2 n
  unfold nx sx
  rw [if_pos (by omega), if_pos (by omega)]
theorem sx_odd {t p n : Int} (ht : t % 2 = 1) (hp : p % 2 = 1) (h : (n.tmod 2 == 0) = false) : (t * n + p).tdiv 2 = sx t p n := by
  simp only [beq_eq_false_iff_ne, ne_eq] at h
  have := tmod2 n
  have := odd_even ht hp (n := n) (by omega)
  unfold sx
  rw [if_neg (by omega), Int.tdiv_eq_ediv]
  split <;> omega


/-- Are there a map, a number, and steps? -/
def askB (t p n k : Int) : Bool := goodB t p && numB n && inB k 0 1000
end Go.Proofs.Ytdlofghofccekaa
