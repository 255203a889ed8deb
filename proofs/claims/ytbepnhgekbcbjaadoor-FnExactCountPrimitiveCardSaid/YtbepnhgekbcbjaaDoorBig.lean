/-
  A STEP AND A SHORT STEP OF THE PROGRAM at greater numbers; the table of powers of two; residues.
-/
import Derived.Test.YtbepnhgekbcbjaaDoorNumB
import Derived.Test.YtbepnhgekbcbjaaDoorMask
import Derived.Lib.LaidTab
namespace Go.Proofs.YtbepnhgekbcbjaaDoor
open Go.RowKit
set_option linter.unusedVariables false

theorem nxe {t p n : Int} (h : (n.tmod 2 == 0) = true) : n.tdiv 2 = nx t p n := by
  simp only [beq_iff_eq] at h
  have := tmod2 n
  unfold nx
  rw [if_pos (by omega), Int.tdiv_eq_ediv]
  split <;> omega
theorem nxo {t p n : Int} (h : (n.tmod 2 == 0) = false) : t * n + p = nx t p n := by
  simp only [beq_eq_false_iff_ne, ne_eq] at h
  have := tmod2 n
  unfold nx
  rw [if_neg (by omega)]
theorem sxtwo {t p n : Int} (ht : t % 2 = 1) (hp : p % 2 = 1) (h : oddB n = true) : nx t p (nx t p n) = sx t p n := by
  simp only [oddB, decide_eq_true_eq] at h
  have := odd_even ht hp h
  unfold sx nx
  simp [h, this]
theorem sxone {t p n : Int} (h : oddB n = false) : nx t p n = sx t p n := by
  simp only [oddB, decide_eq_false_iff_not, ne_eq, Decidable.not_not] at h
  unfold sx nx
  simp [h]
theorem nx_big {t p n : Int} (hg : goodB t p = true) (n1 : -2000000000000000 ≤ n) (n2 : n ≤ 2000000000000000) : -20000000000000000 ≤ nx t p n ∧ nx t p n ≤ 20000000000000000 := by
  have g := goodB_iff.1 hg
  have m := mul_bound (t := t) (n := n) (B := 2000000000000000) g.1 g.2.1 (by omega) n2
  unfold nx
  split <;> omega

/-- What the table of powers of two holds. -/
def p2tab : List Int := [1, 2, 4, 8, 16, 32, 64, 128, 256, 512, 1024, 2048, 4096, 8192, 16384, 32768]
/-- The table lies as the program's text lays it. -/
abbrev Tab (w : World) : Prop := Lib.TabIs Tryd.prog w "loop.example/g01293/impl.powersOfTwo" .i64 p2tab
theorem gPow : Tryd.prog.globalNamed "loop.example/g01293/impl.powersOfTwo" = some 0 := by kernel_rfl
theorem tab_lt {w : World} (h : Tab w) : 0 < w.heap.size := by
  unfold Tab Lib.TabIs World.var? at h
  rw [gPow] at h
  simp only [Option.bind_some] at h
  rcases Nat.lt_or_ge 0 w.heap.size with h' | h'
  · exact h'
  · rw [Array.getElem?_eq_none h'] at h; cases h
theorem tab_below {w w' : World} {B : Nat} (h : Tab w) (hb : Below B w w') (hB : w.heap.size ≤ B) : Tab w' := by
  have hl := tab_lt h
  unfold Tab Lib.TabIs World.var? at h ⊢
  rw [gPow] at h ⊢
  simp only [Option.bind_some] at h ⊢
  rw [hb.block _ (Nat.lt_of_lt_of_le hl hB)]
  exact h
theorem tab_at {w : World} (h : Tab w) {k : Nat} (hk : k ≤ 15) : w.cell? ⟨0, k, none⟩ = some (.int .i64 ((2 : Int) ^ k)) := by
  have hv := World.var?_cell gPow h k
  rw [hv]
  have : ∀ k : Fin 16, p2tab[k.val]? = some ((2 : Int) ^ k.val) := by decide
  rw [List.getElem?_toArray, List.getElem?_map, this ⟨k, by omega⟩]
  rfl

end Go.Proofs.YtbepnhgekbcbjaaDoor
