/-
  THE SHORT STEP; 'IsMap' and its kin are in the leaves.
-/
import Derived.Test.YtnhpoefhcngoaaaDoorLeafB
namespace Go.Proofs.YtnhpoefhcngoaaaDoor
open Go.RowKit
set_option linter.unusedVariables false

/-- The two steps of a short one. -/
theorem sx_two {t p n : Int} (ht : t % 2 = 1) (hp : p % 2 = 1) (h : oddB n = true) : nx t p (nx t p n) = sx t p n := by
  simp only [oddB, decide_eq_true_eq] at h
  have := odd_even ht hp h
  unfold sx nx
  simp [h, this]
theorem sx_one {t p n : Int} (h : oddB n = false) : nx t p n = sx t p n := by
  simp only [oddB, decide_eq_false_iff_not, ne_eq, Decidable.not_not] at h
  unfold sx nx
  simp [h]
/-- A step's number that is even takes a step more, whatever its size. -/
theorem step_even (t p n : Int) (w : World) (h1 : -9000000000009 ≤ n) (h2 : n ≤ 9000000000009) (he : oddB n = false) :
    Calls Tryd.prog 54 #[.agg #[.int .i64 t, .int .i64 p, .int .i64 n]] w fun e w' => e = .returned (.agg #[.int .i64 t, .int .i64 p, .int .i64 (nx t p n)]) ∧ Below w.heap.size w w' := by
  have ex : n.tdiv 2 = nx t p n := nx_even (by rw [even_tmod, he]; rfl)
  have EX := Lib.hid ex
  clear ex
  go_enter Tryd.func54, Tryd.ntmps54
  go_wp2_with (go_at_call 48; refine (isOdd_any _ _).mono ?_; rintro e w' ⟨rfl, rfl⟩)
  rw [EX.out]
  exact bodyPost_ret (v := .agg #[.int .i64 t, .int .i64 p, .int .i64 (nx t p n)]) (by simp [results, Tryd.results54, go_sem]) rfl ⟨rfl, ((Below.refl _ _).alloc (Nat.le_refl _) _).alloc (by simp) _⟩

theorem shortStep_any (t p n : Int) (w : World) (hg : goodB t p = true) (hn : numB n = true) :
    Calls Tryd.prog 34 #[.agg #[.int .i64 t, .int .i64 p, .int .i64 n]] w fun e w' => e = .returned (.agg #[.int .i64 t, .int .i64 p, .int .i64 (sx t p n)]) ∧ Below w.heap.size w w' := by
  have H3 := Lib.hid (goodB_iff.1 hg).2.2.1
  have H6 := Lib.hid (goodB_iff.1 hg).2.2.2.2.2
  have hbd := nx_bound hg hn
  by_cases ho : oddB n = true
  · have he : oddB (nx t p n) = false := by
      rw [nx, if_neg (by simpa [oddB] using ho)]
      have := odd_even H3.out H6.out (n := n) (by simpa [oddB] using ho)
      simp [oddB, this]
    go_enter Tryd.func34, Tryd.ntmps34
    go_wp2_with (go_at_call 48; refine (isOdd_any _ _).mono ?_; rintro e w' ⟨rfl, rfl⟩)
    refine (step_any t p n _ hg hn).mono ?_
    rintro e w1 ⟨rfl, hb⟩
    obtain ⟨⟨c0, c1, c2⟩, ⟨f0, f1, f2⟩, ⟨d0, d1, d2⟩, ⟨e0, e1, e2⟩, hz⟩ := two_blocks hb
    have hs := sx_two H3.out H6.out ho
    have HS := Lib.hid hs
    clear hs
    go_wp2_with fail
    refine (step_even t p (nx t p n) _ hbd.1 hbd.2 he).mono ?_
    rintro e w2 ⟨rfl, hb2⟩
    have g0 : w2.cell? ⟨w.heap.size + 1, 0, none⟩ = some (.int .i64 0) := kept_cell hb2 (by simp; omega) (by go_simp)
    have g1 : w2.cell? ⟨w.heap.size + 1, 1, none⟩ = some (.int .i64 0) := kept_cell hb2 (by simp; omega) (by go_simp)
    have g2 : w2.cell? ⟨w.heap.size + 1, 2, none⟩ = some (.int .i64 0) := kept_cell hb2 (by simp; omega) (by go_simp)
    have j0 : w2.frozen? ⟨w.heap.size + 1, 0, none⟩ = false := kept_free hb2 (by simp; omega) (by go_simp)
    have j1 : w2.frozen? ⟨w.heap.size + 1, 1, none⟩ = false := kept_free hb2 (by simp; omega) (by go_simp)
    have j2 : w2.frozen? ⟨w.heap.size + 1, 2, none⟩ = false := kept_free hb2 (by simp; omega) (by go_simp)
    rw [HS.out]
    have hB : Below w.heap.size w w2 := (((((((Below.refl _ w).alloc (Nat.le_refl _) _).alloc (by simp) _).trans (hb.mono (by simp; omega))).setCell (Nat.le_refl _) _).setCell (Nat.le_refl _) _).setCell (Nat.le_refl _) _).trans (hb2.mono (by simp; omega))
    go_wp2_with fail
    refine bodyPost_ret (v := .agg #[.int .i64 t, .int .i64 p, .int .i64 (sx t p n)]) (by simp [results, Tryd.results34, go_sem, g0, g1, g2]) rfl ⟨rfl, ?_⟩
    exact ((hB.setCell (by simp) _).setCell (by simp) _).setCell (by simp) _
  · have he : oddB n = false := by simpa using ho
    obtain ⟨n1, n2⟩ := numB_iff.1 hn
    have HS := Lib.hid (sx_one (t := t) (p := p) he)
    go_enter Tryd.func34, Tryd.ntmps34
    go_wp2_with (go_at_call 48; refine (isOdd_any _ _).mono ?_; rintro e w' ⟨rfl, rfl⟩)
    refine (step_any t p n _ hg hn).mono ?_
    rintro e w1 ⟨rfl, hb⟩
    obtain ⟨⟨c0, c1, c2⟩, ⟨f0, f1, f2⟩, ⟨d0, d1, d2⟩, ⟨e0, e1, e2⟩, hz⟩ := two_blocks hb
    rw [HS.out]
    have hB : Below w.heap.size w w1 := (((Below.refl _ w).alloc (Nat.le_refl _) _).alloc (by simp) _).trans (hb.mono (by simp; omega))
    go_wp2_with fail
    refine bodyPost_ret (v := .agg #[.int .i64 t, .int .i64 p, .int .i64 (sx t p n)]) (by simp [results, Tryd.results34, go_sem, d0, d1, d2]) rfl ⟨rfl, ?_⟩
    exact ((hB.setCell (by simp) _).setCell (by simp) _).setCell (by simp) _
end Go.Proofs.YtnhpoefhcngoaaaDoor
