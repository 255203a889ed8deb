/-
  'l1Mod', 'mpShort' of the model at greater numbers.
-/
import Derived.Test.YtgobjobppajkbaaDoorLeaf
import Derived.Test.YtgobjobppajkbaaDoorWord
import Derived.IntWalk
namespace Go.Proofs.YtgobjobppajkbaaDoor
open Go.RowKit
set_option linter.unusedVariables false

theorem tmod_pos (n m : Int) (hm : 0 < m) : -m < n.tmod m ∧ n.tmod m < m ∧ (n.tmod m + m) % m = n % m := by
  have h1 := Int.emod_nonneg n (show m ≠ 0 by omega)
  have h2 := Int.emod_lt_of_pos n hm
  have h3 : n.tmod m = n % m ∨ n.tmod m = n % m - m := by
    rw [Int.tmod_eq_emod]
    split
    · left; omega
    · right; omega
  rcases h3 with h | h
  · refine ⟨by omega, by omega, ?_⟩
    rw [h, Int.add_emod_right, Int.emod_emod]
  · have h4 : -m < n.tmod m := Int.lt_tmod_of_pos n hm
    refine ⟨h4, by omega, ?_⟩
    rw [h, show n % m - m + m = n % m by omega, Int.emod_emod]

theorem l1Mod_any (n m : Int) (w : World) (h1 : 1 ≤ m) (h2 : m ≤ 1000000) (n1 : -2000000000000000 ≤ n) (n2 : n ≤ 2000000000000000) :
    Calls Tryd.prog 73 #[.int .i64 n, .int .i64 m] w fun e w' => e = .returned (.int .i64 (n % m)) ∧ w = w' := by
  obtain ⟨t1, t2, t3⟩ := tmod_pos n m (by omega)
  have H3 := Lib.hid t3
  clear t3
  go_enter Tryd.func73, Tryd.ntmps73
  go_wp2
  go_ret
  exact ⟨ret_int H3.out, rfl⟩

theorem sxe {t p n : Int} (h : (n.tmod 2 == 0) = true) : n.tdiv 2 = sx t p n := by
  simp only [beq_iff_eq] at h
  have := tmod2 n
  unfold sx
  rw [if_pos (by omega), Int.tdiv_eq_ediv]
  split <;> omega
theorem sxo {t p n : Int} (ht : t % 2 = 1) (hp : p % 2 = 1) (h : (n.tmod 2 == 0) = false) : (t * n + p).tdiv 2 = sx t p n := by
  simp only [beq_eq_false_iff_ne, ne_eq] at h
  have := tmod2 n
  have := odd_even ht hp (n := n) (by omega)
  unfold sx
  rw [if_neg (by omega), Int.tdiv_eq_ediv]
  split <;> omega

theorem mpShort_big (t p n : Int) (w : World) (hg : goodB t p = true) (n1 : -2000000000000000 ≤ n) (n2 : n ≤ 2000000000000000) :
    Calls Tryd.prog 74 #[.agg #[.int .i64 t, .int .i64 p], .int .i64 n] w fun e w' => e = .returned (.int .i64 (sx t p n)) ∧ Below w.heap.size w w' := by
  obtain ⟨g1, g2, g3, g4, g5, g6⟩ := goodB_iff.1 hg
  have hm := mul_bound (B := 2000000000000000) g1 g2 (by omega) n2
  have H3 := Lib.hid g3
  have H6 := Lib.hid g6
  clear g3 g6 hg
  go_enter Tryd.func74, Tryd.ntmps74
  go_wp2
  all_goals
    go_ret
  · exact ⟨ret_int (sxe (by assumption)), (Below.refl _ _).alloc (Nat.le_refl _) _⟩
  · exact ⟨ret_int (sxo H3.out H6.out (by assumption)), (Below.refl _ _).alloc (Nat.le_refl _) _⟩

end Go.Proofs.YtgobjobppajkbaaDoor
