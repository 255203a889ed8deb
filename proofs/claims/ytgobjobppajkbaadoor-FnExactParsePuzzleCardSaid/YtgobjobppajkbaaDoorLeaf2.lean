/-
  THE SHORT STEP; 'IsMap' and its kin are in the leaves.
  THE ITERATOR OF A WALK, BY SHORT STEPS: it gives 0, 1, 2, .. and the number behind so many short steps, till 1000, or till what is no number.
  'after': what is behind so many steps of a walk.
  'NextNumber', 'ShortNext', 'NumberAfter', 'ShortAfter' of the program; 'NextNumber', 'ShortNext', 'ShortAfter' of the model.
-/
import Derived.Test.YtgobjobppajkbaaDoorLeafB
import Derived.Test.YtgobjobppajkbaaDoorPath
namespace Go.Proofs.YtgobjobppajkbaaDoor
open Go.RowKit
set_option linter.unusedVariables false

/-- The two steps of a short one. -/
theorem sx_two {t p n : Int} (ht : t % 2 = 1) (hp : p % 2 = 1) (h : oddB n = true) : nx t p (nx t p n) = sx t p n := by
  simp only [oddB, decide_eq_true_eq] at h
  have := odd_even ht hp h
  unfold sx nx
  simp [h, this]
theorem sx_one {t p n : Int} (h : oddB n = false) : nx t p n = sx t p n := by
  simp only [oddB, decide_eq_false_iff_not, ne_eq, Decidable.not_not] at h
  unfold sx nx
  simp [h]
/-- A step's number that is even takes a step more, whatever its size. -/
theorem step_even (t p n : Int) (w : World) (h1 : -9000000000009 ≤ n) (h2 : n ≤ 9000000000009) (he : oddB n = false) :
    Calls Tryd.prog 131 #[.agg #[.int .i64 t, .int .i64 p, .int .i64 n]] w fun e w' => e = .returned (.agg #[.int .i64 t, .int .i64 p, .int .i64 (nx t p n)]) ∧ Below w.heap.size w w' := by
  have ex : n.tdiv 2 = nx t p n := nx_even (by rw [even_tmod, he]; rfl)
  have EX := Lib.hid ex
  clear ex
  go_enter Tryd.func131, Tryd.ntmps131
  go_wp2_with (go_at_call 76; refine (isOdd_any _ _).mono ?_; rintro e w' ⟨rfl, rfl⟩)
  rw [EX.out]
  exact bodyPost_ret (v := .agg #[.int .i64 t, .int .i64 p, .int .i64 (nx t p n)]) (by simp [results, Tryd.results131, go_sem]) rfl ⟨rfl, ((Below.refl _ _).alloc (Nat.le_refl _) _).alloc (by simp) _⟩

theorem shortStep_any (t p n : Int) (w : World) (hg : goodB t p = true) (hn : numB n = true) :
    Calls Tryd.prog 112 #[.agg #[.int .i64 t, .int .i64 p, .int .i64 n]] w fun e w' => e = .returned (.agg #[.int .i64 t, .int .i64 p, .int .i64 (sx t p n)]) ∧ Below w.heap.size w w' := by
  have H3 := Lib.hid (goodB_iff.1 hg).2.2.1
  have H6 := Lib.hid (goodB_iff.1 hg).2.2.2.2.2
  have hbd := nx_bound hg hn
  by_cases ho : oddB n = true
  · have he : oddB (nx t p n) = false := by
      rw [nx, if_neg (by simpa [oddB] using ho)]
      have := odd_even H3.out H6.out (n := n) (by simpa [oddB] using ho)
      simp [oddB, this]
    go_enter Tryd.func112, Tryd.ntmps112
    go_wp2_with (go_at_call 76; refine (isOdd_any _ _).mono ?_; rintro e w' ⟨rfl, rfl⟩)
    refine (step_any t p n _ hg hn).mono ?_
    rintro e w1 ⟨rfl, hb⟩
    obtain ⟨⟨c0, c1, c2⟩, ⟨f0, f1, f2⟩, ⟨d0, d1, d2⟩, ⟨e0, e1, e2⟩, hz⟩ := two_blocks hb
    have hs := sx_two H3.out H6.out ho
    have HS := Lib.hid hs
    clear hs
    go_wp2_with fail
    refine (step_even t p (nx t p n) _ hbd.1 hbd.2 he).mono ?_
    rintro e w2 ⟨rfl, hb2⟩
    have g0 : w2.cell? ⟨w.heap.size + 1, 0, none⟩ = some (.int .i64 0) := kept_cell hb2 (by simp; omega) (by go_simp)
    have g1 : w2.cell? ⟨w.heap.size + 1, 1, none⟩ = some (.int .i64 0) := kept_cell hb2 (by simp; omega) (by go_simp)
    have g2 : w2.cell? ⟨w.heap.size + 1, 2, none⟩ = some (.int .i64 0) := kept_cell hb2 (by simp; omega) (by go_simp)
    have j0 : w2.frozen? ⟨w.heap.size + 1, 0, none⟩ = false := kept_free hb2 (by simp; omega) (by go_simp)
    have j1 : w2.frozen? ⟨w.heap.size + 1, 1, none⟩ = false := kept_free hb2 (by simp; omega) (by go_simp)
    have j2 : w2.frozen? ⟨w.heap.size + 1, 2, none⟩ = false := kept_free hb2 (by simp; omega) (by go_simp)
    rw [HS.out]
    have hB : Below w.heap.size w w2 := (((((((Below.refl _ w).alloc (Nat.le_refl _) _).alloc (by simp) _).trans (hb.mono (by simp; omega))).setCell (Nat.le_refl _) _).setCell (Nat.le_refl _) _).setCell (Nat.le_refl _) _).trans (hb2.mono (by simp; omega))
    go_wp2_with fail
    refine bodyPost_ret (v := .agg #[.int .i64 t, .int .i64 p, .int .i64 (sx t p n)]) (by simp [results, Tryd.results112, go_sem, g0, g1, g2]) rfl ⟨rfl, ?_⟩
    exact ((hB.setCell (by simp) _).setCell (by simp) _).setCell (by simp) _
  · have he : oddB n = false := by simpa using ho
    obtain ⟨n1, n2⟩ := numB_iff.1 hn
    have HS := Lib.hid (sx_one (t := t) (p := p) he)
    go_enter Tryd.func112, Tryd.ntmps112
    go_wp2_with (go_at_call 76; refine (isOdd_any _ _).mono ?_; rintro e w' ⟨rfl, rfl⟩)
    refine (step_any t p n _ hg hn).mono ?_
    rintro e w1 ⟨rfl, hb⟩
    obtain ⟨⟨c0, c1, c2⟩, ⟨f0, f1, f2⟩, ⟨d0, d1, d2⟩, ⟨e0, e1, e2⟩, hz⟩ := two_blocks hb
    rw [HS.out]
    have hB : Below w.heap.size w w1 := (((Below.refl _ w).alloc (Nat.le_refl _) _).alloc (by simp) _).trans (hb.mono (by simp; omega))
    go_wp2_with fail
    refine bodyPost_ret (v := .agg #[.int .i64 t, .int .i64 p, .int .i64 (sx t p n)]) (by simp [results, Tryd.results112, go_sem, d0, d1, d2]) rfl ⟨rfl, ?_⟩
    exact ((hB.setCell (by simp) _).setCell (by simp) _).setCell (by simp) _
end Go.Proofs.YtgobjobppajkbaaDoor

namespace Go.Proofs.YtgobjobppajkbaaDoor
open Go.RowKit Go.Shelf
attribute [local go_sem] Oper.semAt_some
set_option linter.unusedVariables false

end Go.Proofs.YtgobjobppajkbaaDoor

namespace Go.Proofs.YtgobjobppajkbaaDoor
open Go.RowKit Go.Shelf
attribute [local go_sem] Oper.semAt_some
set_option linter.unusedVariables false

/-- What is found behind k steps. -/
def found (S : List (Int × Int)) (k : Int) : Int × Bool :=
  match S.find? (fun x => x.1 == k) with
  | some x => (x.2, true)
  | none => (0, false)
theorem found_none {S : List (Int × Int)} {k : Int} (h : ∀ x ∈ S, x.1 ≠ k) : found S k = (0, false) := by
  have : S.find? (fun x => x.1 == k) = none := by rw [List.find?_eq_none]; intro x hx; simpa using h x hx
  rw [found, this]
theorem found_some {S pre : List (Int × Int)} {k v : Int} (h : ∀ x ∈ pre, x.1 ≠ k) (hp : (pre ++ [(k, v)]) <+: S) : found S k = (v, true) := by
  obtain ⟨rest, rfl⟩ := hp
  have : ((pre ++ [(k, v)]) ++ rest).find? (fun x => x.1 == k) = some (k, v) := by
    have hn : pre.find? (fun x => x.1 == k) = none := by rw [List.find?_eq_none]; intro x hx; simpa using h x hx
    rw [List.append_assoc, List.find?_append, hn]; simp
  rw [found, this]

/-- The cells of a call of 'after': its argument 'steps' and its two results. -/
def AfterCells (B : Nat) (k : Int) (rv ov : Value) (W : World) : Prop :=
  W.cell? ⟨B + 1, 0, none⟩ = some (.int .i64 k) ∧ W.cell? ⟨B + 1 + 1, 0, none⟩ = some rv ∧ W.frozen? ⟨B + 1 + 1, 0, none⟩ = false ∧
  W.cell? ⟨B + 1 + 1 + 1, 0, none⟩ = some ov ∧ W.frozen? ⟨B + 1 + 1 + 1, 0, none⟩ = false ∧ B + 6 ≤ W.heap.size
theorem AfterCells.below {B : Nat} {k : Int} {rv ov : Value} {A C : World} (h : AfterCells B k rv ov A) {N : Nat} (hN : B + 4 ≤ N) (hb : Below N A C) : AfterCells B k rv ov C := by
  obtain ⟨h1, h2, h3, h4, h5, h6⟩ := h
  refine ⟨(hb.cell (p := ⟨B + 1, 0, none⟩) ?_).trans h1, (hb.cell (p := ⟨B + 1 + 1, 0, none⟩) ?_).trans h2, (hb.frozen (p := ⟨B + 1 + 1, 0, none⟩) ?_).trans h3, (hb.cell (p := ⟨B + 1 + 1 + 1, 0, none⟩) ?_).trans h4, (hb.frozen (p := ⟨B + 1 + 1 + 1, 0, none⟩) ?_).trans h5, Nat.le_trans h6 hb.size⟩ <;> (dsimp only; omega)

end Go.Proofs.YtgobjobppajkbaaDoor

namespace Go.Proofs.YtgobjobppajkbaaDoor
open Go.RowKit Go.Shelf
set_option linter.unusedVariables false

theorem found_seq (t p : Int) (f : Int → Int) (n k : Int) : found (seqOf t p f n) k = aft t p f n k := by
  unfold aft
  by_cases h : askB t p n k = true ∧ allB f n (k.toNat + 1) = true
  · rw [if_pos h]
    obtain ⟨ha, hl⟩ := h
    simp only [askB, inB, Bool.and_eq_true, decide_eq_true_eq] at ha
    have hlt : k.toNat < cntF f 1001 n := (lt_cnt _ _ _ _).2 ⟨by omega, hl⟩
    have hk : k = (k.toNat : Int) := by omega
    have hp : (upto f n k.toNat ++ [(k, itr f k.toNat n)]) <+: seqOf t p f n := by
      rw [seqOf, if_pos ha.1.1]
      have := upto_prefix f n (j := k.toNat + 1) (k := cntF f 1001 n) (by omega)
      rw [upto_succ, ← hk] at this
      exact this
    refine found_some ?_ hp
    intro x hx
    obtain ⟨j, hj, rfl⟩ := mem_upto hx
    dsimp only
    omega
  · rw [if_neg h]
    refine found_none ?_
    intro x hx hk
    unfold seqOf at hx
    split at hx
    · rename_i hg
      obtain ⟨j, hj, rfl⟩ := mem_upto hx
      have hj' := (lt_cnt _ _ _ _).1 hj
      dsimp only at hk
      obtain rfl : j = k.toNat := by omega
      refine h ⟨?_, hj'.2⟩
      have hn : numB n = true := allB_at (f := f) (n := n) (j := 0) (k := k.toNat + 1) (by omega) hj'.2
      simp only [askB, inB, Bool.and_eq_true, decide_eq_true_eq]
      exact ⟨⟨hg, hn⟩, by omega⟩
    · simp at hx

end Go.Proofs.YtgobjobppajkbaaDoor
