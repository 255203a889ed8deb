/-
  THE WORD OF A NUMBER, IN THE MODEL: 'woOf'.
  IS IT A LENGTH? Of both.
  BITS OF CHAPTER 2: a mask of the lowest bits, at numbers less than 0 too; lengths and numbers of bits. No program.
  A STEP AND A SHORT STEP OF THE PROGRAM at greater numbers; the table of powers of two; residues.
-/
import Derived.Test.YtnhpoefhcngoaaaDoorDoes
import Derived.Laws.IdiomStrings
import Derived.OwnWalk
import Derived.Outline
import Derived.Laws.BitsLemmas
import Derived.Test.YtnhpoefhcngoaaaDoorMath
import Derived.Lib.LaidTab
namespace Go.Proofs.YtnhpoefhcngoaaaDoor
open Go.RowKit
set_option linter.unusedVariables false

def wby (l : List UInt8) : ByteArray := ⟨l.toArray⟩
theorem wby_add (w : World) (l : List UInt8) (b : UInt8) (h : l.length ≤ 1000) : (Op.stringOp .add (wby l) ⟨#[b]⟩).run Tryd.prog w = .ok (.string (wby (l ++ [b]))) w := by
  rw [run_string_add_sum w _ _ (by
    have h1 : (wby l).size = l.length := by show l.toArray.size = _; simp
    have h2 : (ByteArray.mk #[b]).size = 1 := rfl
    omega)]
  have : wby l ++ ⟨#[b]⟩ = wby (l ++ [b]) := by
    unfold wby
    rw [ByteArray.mk_append_mk]
  rw [this]
theorem ret_wby {x y : ByteArray} (h : x = y) : Ending.returned (.string x) = .returned (.string y) := by rw [h]
theorem par_odd {v : Int} (h : oddB v = true) : par v = 111 := by
  unfold par oddB at *
  rw [if_neg (by simpa using h)]
theorem par_even {v : Int} (h : oddB v = false) : par v = 101 := by
  unfold par oddB at *
  rw [if_pos (by simpa using h)]

end Go.Proofs.YtnhpoefhcngoaaaDoor

namespace Go.Proofs.YtnhpoefhcngoaaaDoor
open Go.RowKit
set_option linter.unusedVariables false

end Go.Proofs.YtnhpoefhcngoaaaDoor

namespace Go.Proofs.YtnhpoefhcngoaaaDoor

theorem pow2_nat (L : Nat) : ((2 ^ L : Nat) : Int) = (2 : Int) ^ L := by simp
theorem and_mask (n : Int) (L : Nat) (hL : L ≤ 15) : bits .and .i64 n ((2 : Int) ^ L - 1) = n % 2 ^ L := by
  have hpos : 0 < 2 ^ L := Nat.two_pow_pos L
  have hle : 2 ^ L ≤ 2 ^ 15 := Nat.pow_le_pow_right (by decide) hL
  have hc : ((2 : Int) ^ L - 1) = ((2 ^ L - 1 : Nat) : Int) := by rw [Int.natCast_sub hpos]; simp
  have hd : ((2 : Int) ^ L) ∣ 2 ^ 64 := ⟨2 ^ (64 - L), by rw [← Int.pow_add]; congr 1; omega⟩
  unfold bits
  rw [hc]
  simp only [BitVec.ofInt_natCast, BitVec.toNat_and, BitVec.toNat_ofNat, BitVec.toNat_ofInt]
  rw [Nat.mod_eq_of_lt (show 2 ^ L - 1 < 2 ^ IntKind.i64.bits by show _ < 2 ^ 64; omega), Nat.and_two_pow_sub_one_eq_mod]
  have h1 : (((n % ((2 ^ IntKind.i64.bits : Nat) : Int)).toNat % 2 ^ L : Nat) : Int) = n % 2 ^ L := by
    have h0 : 0 ≤ n % ((2 ^ IntKind.i64.bits : Nat) : Int) := Int.emod_nonneg _ (by decide)
    rw [Int.natCast_emod, Int.toNat_of_nonneg h0]
    show n % (2 ^ 64) % _ = _
    rw [pow2_nat, Int.emod_emod_of_dvd _ hd]
  rw [h1, IntKind.wrap_i64]
  have h2 : (0 : Int) < 2 ^ L := Int.pow_pos (by decide)
  have h3 := Int.emod_nonneg n (show (2 : Int) ^ L ≠ 0 by omega)
  have h4 := Int.emod_lt_of_pos n h2
  have h5 : (2 : Int) ^ L ≤ 32768 := by
    rw [← pow2_nat]
    have h15 : (2 : Nat) ^ 15 = 32768 := rfl
    rw [h15] at hle
    exact Int.ofNat_le.2 hle
  omega
end Go.Proofs.YtnhpoefhcngoaaaDoor

namespace Go.Proofs.YtnhpoefhcngoaaaDoor
open Go.RowKit
set_option linter.unusedVariables false

theorem nxe {t p n : Int} (h : (n.tmod 2 == 0) = true) : n.tdiv 2 = nx t p n := by
  simp only [beq_iff_eq] at h
  have := tmod2 n
  unfold nx
  rw [if_pos (by omega), Int.tdiv_eq_ediv]
  split <;> omega
theorem nxo {t p n : Int} (h : (n.tmod 2 == 0) = false) : t * n + p = nx t p n := by
  simp only [beq_eq_false_iff_ne, ne_eq] at h
  have := tmod2 n
  unfold nx
  rw [if_neg (by omega)]
theorem sxtwo {t p n : Int} (ht : t % 2 = 1) (hp : p % 2 = 1) (h : oddB n = true) : nx t p (nx t p n) = sx t p n := by
  simp only [oddB, decide_eq_true_eq] at h
  have := odd_even ht hp h
  unfold sx nx
  simp [h, this]
theorem sxone {t p n : Int} (h : oddB n = false) : nx t p n = sx t p n := by
  simp only [oddB, decide_eq_false_iff_not, ne_eq, Decidable.not_not] at h
  unfold sx nx
  simp [h]
theorem nx_big {t p n : Int} (hg : goodB t p = true) (n1 : -2000000000000000 ≤ n) (n2 : n ≤ 2000000000000000) : -20000000000000000 ≤ nx t p n ∧ nx t p n ≤ 20000000000000000 := by
  have g := goodB_iff.1 hg
  have m := mul_bound (t := t) (n := n) (B := 2000000000000000) g.1 g.2.1 (by omega) n2
  unfold nx
  split <;> omega

theorem step_big (t p n : Int) (w : World) (hg : goodB t p = true) (n1 : -20000000000000000 ≤ n) (n2 : n ≤ 20000000000000000) :
    Calls Tryd.prog 54 #[.agg #[.int .i64 t, .int .i64 p, .int .i64 n]] w fun e w' => e = .returned (.agg #[.int .i64 t, .int .i64 p, .int .i64 (nx t p n)]) ∧ Below w.heap.size w w' := by
  obtain ⟨g1, g2, g3, g4, g5, g6⟩ := goodB_iff.1 hg
  have hm := mul_bound (B := 20000000000000000) g1 g2 (by omega) n2
  clear g3 g6 hg
  go_enter Tryd.func54, Tryd.ntmps54
  go_wp2_with (go_at_call 48; refine (isOdd_any _ _).mono ?_; rintro e w' ⟨rfl, rfl⟩)
  · rename_i ho
    rw [nxo (by rw [even_tmod, ho]; rfl)]
    exact bodyPost_ret (v := .agg #[.int .i64 t, .int .i64 p, .int .i64 (nx t p n)]) (by simp [results, Tryd.results54, go_sem]) rfl ⟨rfl, ((Below.refl _ _).alloc (Nat.le_refl _) _).alloc (by simp) _⟩
  · rename_i ho
    rw [nxe (t := t) (p := p) (by rw [even_tmod, ho]; rfl)]
    exact bodyPost_ret (v := .agg #[.int .i64 t, .int .i64 p, .int .i64 (nx t p n)]) (by simp [results, Tryd.results54, go_sem]) rfl ⟨rfl, ((Below.refl _ _).alloc (Nat.le_refl _) _).alloc (by simp) _⟩

theorem shortStep_big (t p n : Int) (w : World) (hg : goodB t p = true) (n1 : -2000000000000000 ≤ n) (n2 : n ≤ 2000000000000000) :
    Calls Tryd.prog 34 #[.agg #[.int .i64 t, .int .i64 p, .int .i64 n]] w fun e w' => e = .returned (.agg #[.int .i64 t, .int .i64 p, .int .i64 (sx t p n)]) ∧ Below w.heap.size w w' := by
  have H3 := Lib.hid (goodB_iff.1 hg).2.2.1
  have H6 := Lib.hid (goodB_iff.1 hg).2.2.2.2.2
  have hbd := nx_big hg n1 n2
  by_cases ho : oddB n = true
  · have he : oddB (nx t p n) = false := by
      rw [nx, if_neg (by simpa [oddB] using ho)]
      have := odd_even H3.out H6.out (n := n) (by simpa [oddB] using ho)
      simp [oddB, this]
    go_enter Tryd.func34, Tryd.ntmps34
    go_wp2_with (go_at_call 48; refine (isOdd_any _ _).mono ?_; rintro e w' ⟨rfl, rfl⟩)
    refine (step_big t p n _ hg (by omega) (by omega)).mono ?_
    rintro e w1 ⟨rfl, hb⟩
    obtain ⟨⟨c0, c1, c2⟩, ⟨f0, f1, f2⟩, ⟨d0, d1, d2⟩, ⟨e0, e1, e2⟩, hz⟩ := two_blocks hb
    have hs := sxtwo H3.out H6.out ho
    have HS := Lib.hid hs
    clear hs
    go_wp2_with fail
    refine (step_big t p (nx t p n) _ hg hbd.1 hbd.2).mono ?_
    rintro e w2 ⟨rfl, hb2⟩
    have g0 : w2.cell? ⟨w.heap.size + 1, 0, none⟩ = some (.int .i64 0) := kept_cell hb2 (by simp; omega) (by go_simp)
    have g1 : w2.cell? ⟨w.heap.size + 1, 1, none⟩ = some (.int .i64 0) := kept_cell hb2 (by simp; omega) (by go_simp)
    have g2 : w2.cell? ⟨w.heap.size + 1, 2, none⟩ = some (.int .i64 0) := kept_cell hb2 (by simp; omega) (by go_simp)
    have j0 : w2.frozen? ⟨w.heap.size + 1, 0, none⟩ = false := kept_free hb2 (by simp; omega) (by go_simp)
    have j1 : w2.frozen? ⟨w.heap.size + 1, 1, none⟩ = false := kept_free hb2 (by simp; omega) (by go_simp)
    have j2 : w2.frozen? ⟨w.heap.size + 1, 2, none⟩ = false := kept_free hb2 (by simp; omega) (by go_simp)
    rw [HS.out]
    have hB : Below w.heap.size w w2 := (((((((Below.refl _ w).alloc (Nat.le_refl _) _).alloc (by simp) _).trans (hb.mono (by simp; omega))).setCell (Nat.le_refl _) _).setCell (Nat.le_refl _) _).setCell (Nat.le_refl _) _).trans (hb2.mono (by simp; omega))
    go_wp2_with fail
    refine bodyPost_ret (v := .agg #[.int .i64 t, .int .i64 p, .int .i64 (sx t p n)]) (by simp [results, Tryd.results34, go_sem, g0, g1, g2]) rfl ⟨rfl, ?_⟩
    exact ((hB.setCell (by simp) _).setCell (by simp) _).setCell (by simp) _
  · have he : oddB n = false := by simpa using ho
    have HS := Lib.hid (sxone (t := t) (p := p) he)
    go_enter Tryd.func34, Tryd.ntmps34
    go_wp2_with (go_at_call 48; refine (isOdd_any _ _).mono ?_; rintro e w' ⟨rfl, rfl⟩)
    refine (step_big t p n _ hg (by omega) (by omega)).mono ?_
    rintro e w1 ⟨rfl, hb⟩
    obtain ⟨⟨c0, c1, c2⟩, ⟨f0, f1, f2⟩, ⟨d0, d1, d2⟩, ⟨e0, e1, e2⟩, hz⟩ := two_blocks hb
    rw [HS.out]
    have hB : Below w.heap.size w w1 := (((Below.refl _ w).alloc (Nat.le_refl _) _).alloc (by simp) _).trans (hb.mono (by simp; omega))
    go_wp2_with fail
    refine bodyPost_ret (v := .agg #[.int .i64 t, .int .i64 p, .int .i64 (sx t p n)]) (by simp [results, Tryd.results34, go_sem, d0, d1, d2]) rfl ⟨rfl, ?_⟩
    exact ((hB.setCell (by simp) _).setCell (by simp) _).setCell (by simp) _

/-- What the table of powers of two holds. -/
def p2tab : List Int := [1, 2, 4, 8, 16, 32, 64, 128, 256, 512, 1024, 2048, 4096, 8192, 16384, 32768]
/-- The table lies as the program's text lays it. -/
abbrev Tab (w : World) : Prop := Lib.TabIs Tryd.prog w "loop.example/g01293/impl.powersOfTwo" .i64 p2tab
theorem gPow : Tryd.prog.globalNamed "loop.example/g01293/impl.powersOfTwo" = some 0 := by kernel_rfl
theorem tab_lt {w : World} (h : Tab w) : 0 < w.heap.size := by
  unfold Tab Lib.TabIs World.var? at h
  rw [gPow] at h
  simp only [Option.bind_some] at h
  rcases Nat.lt_or_ge 0 w.heap.size with h' | h'
  · exact h'
  · rw [Array.getElem?_eq_none h'] at h; cases h
theorem tab_below {w w' : World} {B : Nat} (h : Tab w) (hb : Below B w w') (hB : w.heap.size ≤ B) : Tab w' := by
  have hl := tab_lt h
  unfold Tab Lib.TabIs World.var? at h ⊢
  rw [gPow] at h ⊢
  simp only [Option.bind_some] at h ⊢
  rw [hb.block _ (Nat.lt_of_lt_of_le hl hB)]
  exact h
theorem tab_at {w : World} (h : Tab w) {k : Nat} (hk : k ≤ 15) : w.cell? ⟨0, k, none⟩ = some (.int .i64 ((2 : Int) ^ k)) := by
  have hv := World.var?_cell gPow h k
  rw [hv]
  have : ∀ k : Fin 16, p2tab[k.val]? = some ((2 : Int) ^ k.val) := by decide
  rw [List.getElem?_toArray, List.getElem?_map, this ⟨k, by omega⟩]
  rfl

end Go.Proofs.YtnhpoefhcngoaaaDoor
