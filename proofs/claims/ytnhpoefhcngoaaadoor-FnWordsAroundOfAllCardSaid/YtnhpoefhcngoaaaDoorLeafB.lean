/-
  THE STEPS OF CHAPTER 1: of the model and of the program.
-/
import Derived.Test.YtnhpoefhcngoaaaDoorLeaf
namespace Go.Proofs.YtnhpoefhcngoaaaDoor
open Go.RowKit
set_option linter.unusedVariables false


theorem nx_even {t p n : Int} (h : (n.tmod 2 == 0) = true) : n.tdiv 2 = nx t p n := by
  simp only [beq_iff_eq] at h
  have := tmod2 n
  unfold nx
  rw [if_pos (by omega), Int.tdiv_eq_ediv]
  split <;> omega
theorem nx_odd {t p n : Int} (h : (n.tmod 2 == 0) = false) : t * n + p = nx t p n := by
  simp only [beq_eq_false_iff_ne, ne_eq] at h
  have := tmod2 n
  unfold nx
  rw [if_neg (by omega)]
theorem sx_even {t p n : Int} (h : (n.tmod 2 == 0) = true) : n.tdiv 2 = sx t p n := by
  rw [nx_even (t := t) (p := p) h]
  simp only [beq_iff_eq] at h
  have := tmod2 n
  unfold nx sx
  rw [if_pos (by omega), if_pos (by omega)]
theorem sx_odd {t p n : Int} (ht : t % 2 = 1) (hp : p % 2 = 1) (h : (n.tmod 2 == 0) = false) : (t * n + p).tdiv 2 = sx t p n := by
  simp only [beq_eq_false_iff_ne, ne_eq] at h
  have := tmod2 n
  have := odd_even ht hp (n := n) (by omega)
  unfold sx
  rw [if_neg (by omega), Int.tdiv_eq_ediv]
  split <;> omega

theorem mpShort_any (t p n : Int) (w : World) (hg : goodB t p = true) (hn : numB n = true) :
    Calls Tryd.prog 52 #[.agg #[.int .i64 t, .int .i64 p], .int .i64 n] w fun e w' => e = .returned (.int .i64 (sx t p n)) ∧ Below w.heap.size w w' := by
  have hm := mul_big ⟨(goodB_iff.1 hg).1, (goodB_iff.1 hg).2.1⟩ hn
  obtain ⟨n1, n2⟩ := numB_iff.1 hn
  obtain ⟨g1, g2, g3, g4, g5, g6⟩ := goodB_iff.1 hg
  have H3 := Lib.hid g3
  have H6 := Lib.hid g6
  clear g3 g6 hg hn
  go_enter Tryd.func52, Tryd.ntmps52
  go_wp2
  all_goals
    go_ret
  · exact ⟨ret_int (sx_even (by assumption)), (Below.refl _ _).alloc (Nat.le_refl _) _⟩
  · exact ⟨ret_int (sx_odd H3.out H6.out (by assumption)), (Below.refl _ _).alloc (Nat.le_refl _) _⟩

/-- Are there a map, a number, and steps? -/
def askB (t p n k : Int) : Bool := goodB t p && numB n && inB k 0 1000
theorem step_any (t p n : Int) (w : World) (hg : goodB t p = true) (hn : numB n = true) :
    Calls Tryd.prog 54 #[.agg #[.int .i64 t, .int .i64 p, .int .i64 n]] w fun e w' => e = .returned (.agg #[.int .i64 t, .int .i64 p, .int .i64 (nx t p n)]) ∧ Below w.heap.size w w' := by
  have hm := mul_big ⟨(goodB_iff.1 hg).1, (goodB_iff.1 hg).2.1⟩ hn
  obtain ⟨n1, n2⟩ := numB_iff.1 hn
  obtain ⟨g1, g2, g3, g4, g5, g6⟩ := goodB_iff.1 hg
  clear g3 g6 hg hn
  go_enter Tryd.func54, Tryd.ntmps54
  go_wp2_with (go_at_call 48; refine (isOdd_any _ _).mono ?_; rintro e w' ⟨rfl, rfl⟩)
  · rename_i ho
    rw [nx_odd (by rw [even_tmod, ho]; rfl)]
    exact bodyPost_ret (v := .agg #[.int .i64 t, .int .i64 p, .int .i64 (nx t p n)]) (by simp [results, Tryd.results54, go_sem]) rfl ⟨rfl, ((Below.refl _ _).alloc (Nat.le_refl _) _).alloc (by simp) _⟩
  · rename_i ho
    rw [nx_even (t := t) (p := p) (by rw [even_tmod, ho]; rfl)]
    exact bodyPost_ret (v := .agg #[.int .i64 t, .int .i64 p, .int .i64 (nx t p n)]) (by simp [results, Tryd.results54, go_sem]) rfl ⟨rfl, ((Below.refl _ _).alloc (Nat.le_refl _) _).alloc (by simp) _⟩
end Go.Proofs.YtnhpoefhcngoaaaDoor
