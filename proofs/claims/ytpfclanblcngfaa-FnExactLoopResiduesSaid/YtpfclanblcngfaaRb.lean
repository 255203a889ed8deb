/-
  'residuesBehind' of the program, 'rsNext' of the model.
-/
import Derived.Test.YtpfclanblcngfaaNumB
import Derived.Test.YtpfclanblcngfaaLeaf2
import Derived.Test.YtpfclanblcngfaaLeafB
import Derived.Test.YtpfclanblcngfaaRsM
import Derived.Test.YtpfclanblcngfaaOwn
import Derived.Test.YtpfclanblcngfaaPutW
import Derived.Test.YtpfclanblcngfaaRem
import Derived.OwnWalk
import Derived.Outline
namespace Go.Proofs.Ytpfclanblcngfaa
open Go.RowKit
set_option linter.unusedVariables false

theorem nx_small {t p n : Int} (hg : goodB t p = true) (h0 : 0 ≤ n) (h1 : n ≤ 120) : -2000 ≤ nx t p n ∧ nx t p n ≤ 2000 := by
  have g := goodB_iff.1 hg
  have m := mul_bound (t := t) (n := n) (B := 120) g.1 g.2.1 (by omega) h1
  unfold nx
  split <;> omega
theorem num_small {n : Int} (h0 : 0 ≤ n) (h1 : n ≤ 120) : numB n = true := numB_iff.2 ⟨by omega, by omega⟩
theorem index_two (cs : Array Value) (j : Nat) (v : Value) (h : j < 2) (hv : cs[j]? = some v) (w : World) : (Instr.index 39 (.agg cs) (.int .i64 (j : Int))).run Try.prog w = .ok v w := by
  have hi : (0 : Int) ≤ (j : Int) ∧ (j : Int) < ((2 : Nat) : Int) := by omega
  have hsz : (sizeOf 3).run Try.prog w = .ok 1 w := by kernel_rfl
  have hag : (isAgg 3).run Try.prog w = .ok false w := by kernel_rfl
  simp only [Instr.index, asIntOf, Sem.run_bind, Sem.run_pure, Result.andThen_ok, run_underlying Try.underlying39, if_pos hi, hsz, part, hag]
  simp [hv]

theorem field_walk (t p u : Int) (w : World) : (Instr.field 59 (.agg #[.int .i64 t, .int .i64 p, .int .i64 u]) 1).run Try.prog w = .ok (.int .i64 u) w := by rfl
/-- An array of two integers in a block. -/
structure TwoAt (W : World) (g : Nat) (a b : Int) : Prop where
  c0 : W.cell? ⟨g, 0, none⟩ = some (.int .i64 a)
  c1 : W.cell? ⟨g, 1, none⟩ = some (.int .i64 b)
  f0 : W.frozen? ⟨g, 0, none⟩ = false
  f1 : W.frozen? ⟨g, 1, none⟩ = false
  lt : g < W.heap.size
theorem TwoAt.below {W W' : World} {g N : Nat} {a b : Int} (h : TwoAt W g a b) (hb : Below N W W') (hg : g < N) : TwoAt W' g a b :=
  ⟨(hb.cell (p := ⟨g, 0, none⟩) hg).trans h.c0, (hb.cell (p := ⟨g, 1, none⟩) hg).trans h.c1, (hb.frozen (p := ⟨g, 0, none⟩) hg).trans h.f0, (hb.frozen (p := ⟨g, 1, none⟩) hg).trans h.f1, Nat.lt_of_lt_of_le h.lt hb.size⟩
theorem TwoAt.other {W : World} {g k o : Nat} {a b : Int} (h : TwoAt W g a b) (hne : g ≠ k) (u : Value) : TwoAt (W.setCell ⟨k, o, none⟩ u) g a b :=
  ⟨(World.cell?_setCell_other _ _ _ _ (by simp <;> omega)).trans h.c0, (World.cell?_setCell_other _ _ _ _ (by simp <;> omega)).trans h.c1, (World.frozen?_setCell ..).trans h.f0, (World.frozen?_setCell ..).trans h.f1, by simpa using h.lt⟩
theorem TwoAt.set0 {W : World} {g : Nat} {a b : Int} (h : TwoAt W g a b) (u : Int) : TwoAt (W.setCell ⟨g, 0, none⟩ (.int .i64 u)) g u b :=
  ⟨World.cell?_setCell_same' _ _ _ (by rw [h.c0]; rfl), (World.cell?_setCell_other _ _ _ _ (by simp)).trans h.c1, (World.frozen?_setCell ..).trans h.f0, (World.frozen?_setCell ..).trans h.f1, by simpa using h.lt⟩
theorem TwoAt.set1 {W : World} {g : Nat} {a b : Int} (h : TwoAt W g a b) (u : Int) : TwoAt (W.setCell ⟨g, 1, none⟩ (.int .i64 u)) g a u :=
  ⟨(World.cell?_setCell_other _ _ _ _ (by simp)).trans h.c0, World.cell?_setCell_same' _ _ _ (by rw [h.c1]; rfl), (World.frozen?_setCell ..).trans h.f0, (World.frozen?_setCell ..).trans h.f1, by simpa using h.lt⟩
theorem TwoAt.at {W : World} {g j : Nat} {a b : Int} (h : TwoAt W g a b) (hj : j < 2) : (∃ u, W.cell? ⟨g, j, none⟩ = some (.int .i64 u)) ∧ W.frozen? ⟨g, j, none⟩ = false := by
  have : j = 0 ∨ j = 1 := by omega
  rcases this with rfl | rfl
  · exact ⟨⟨_, h.c0⟩, h.f0⟩
  · exact ⟨⟨_, h.c1⟩, h.f1⟩
/-- The first j of two, and zeros. -/
def tw (a b : Int) (j : Nat) : Int × Int := if j = 0 then (0, 0) else if j = 1 then (a, 0) else (a, b)
theorem TwoAt.next {W : World} {g j : Nat} {a b u : Int} (h : TwoAt W g (tw a b j).1 (tw a b j).2) (hj : j < 2) (hu : u = if j = 0 then a else b) : TwoAt (W.setCell ⟨g, j, none⟩ (.int .i64 u)) g (tw a b (j + 1)).1 (tw a b (j + 1)).2 := by
  have : j = 0 ∨ j = 1 := by omega
  rcases this with rfl | rfl
  · rw [hu]; exact h.set0 _
  · rw [hu]; exact h.set1 _

set_option maxRecDepth 100000 in
set_option maxHeartbeats 4000000 in
theorem residuesBehind_any (t p M r : Int) (w : World) (hg : goodB t p = true) (hM1 : 1 ≤ M) (hM2 : M ≤ 60) (hr0 : 0 ≤ r) (hr1 : r < M) :
    Calls Try.prog 24 #[.agg #[.int .i64 t, .int .i64 p], .int .i64 M, .int .i64 r] w fun e w' => e = .returned (.agg #[.int .i64 (nb t p M r 0), .int .i64 (nb t p M r 1)]) ∧ Below w.heap.size w w' := by
  have HST := Lib.hid (fun i (h0 : 0 ≤ i) (h1 : i ≤ 1) w => step_any t p (r + i * M) w hg (num_small (by
    have : 0 ≤ i * M := Int.mul_nonneg h0 (by omega)
    omega) (by
    have : i * M ≤ 1 * M := Int.mul_le_mul_of_nonneg_right h1 (by omega)
    omega)))
  have HNX := Lib.hid (fun i (h0 : 0 ≤ i) (h1 : i ≤ 1) => nx_small (t := t) (p := p) (n := r + i * M) hg (by
    have : 0 ≤ i * M := Int.mul_nonneg h0 (by omega)
    omega) (by
    have : i * M ≤ 1 * M := Int.mul_le_mul_of_nonneg_right h1 (by omega)
    omega))
  have HTM := Lib.hid (fun n => tmod_pos n M (by omega))
  have hM0 : (M == 0) = false := by simp; omega
  have HNB : Hid (∀ i, nb t p M r i = nx t p (r + i * M) % M) := Lib.hid (fun i => rfl)
  clear hg
  go_enter Try.func24, Try.ntmps24
  go_wp2_with fail
  obtain ⟨W0, hW0⟩ : ∃ W0 : World, ((w.alloc (.cells #[.int .i64 t, .int .i64 p] 27)).alloc (.cells #[.int .i64 0, .int .i64 0] 39)).alloc (.cells #[.int .i64 0, .int .i64 0] 39) = W0 := ⟨_, rfl⟩
  rw [hW0]
  have HX : Hid (W0.cell? ⟨w.heap.size, 0, none⟩ = some (.int .i64 t) ∧ W0.cell? ⟨w.heap.size, 1, none⟩ = some (.int .i64 p) ∧ TwoAt W0 (w.heap.size + 1) 0 0 ∧ TwoAt W0 (w.heap.size + 1 + 1) 0 0 ∧ Below w.heap.size w W0) := Lib.hid (by
    subst hW0
    refine ⟨by go_simp, by go_simp, ⟨by go_simp, by go_simp, by go_simp, by go_simp, by simp⟩, ⟨by go_simp, by go_simp, by go_simp, by go_simp, by simp⟩, (((Below.refl _ w).alloc (Nat.le_refl _) _).alloc (by simp) _).alloc (by simp; omega) _⟩)
  clear hW0
  go_loopw [8, 9, 10] (fun _ _ x wr => ∃ j : Nat, j ≤ 2 ∧ x = .int .i64 (j : Int) ∧ wr.cell? ⟨w.heap.size, 0, none⟩ = some (.int .i64 t) ∧ wr.cell? ⟨w.heap.size, 1, none⟩ = some (.int .i64 p) ∧ TwoAt wr (w.heap.size + 1) 0 0 ∧ TwoAt wr (w.heap.size + 1 + 1) (tw (nb t p M r 0) (nb t p M r 1) j).1 (tw (nb t p M r 0) (nb t p M r 1) j).2 ∧ Below w.heap.size w wr) (fun _ _ x _ => 2 - (RowKit.intOf x).toNat)
  case atStart =>
    obtain ⟨h1, h2, h3, h4, h5⟩ := HX.out
    exact ⟨0, by omega, rfl, h1, h2, h3, h4, h5⟩
  case round =>
    clear HX
    obtain ⟨j, hj, rfl, c0, c1, ht1, ht2, hb⟩ := hrel
    have HT1 := Lib.hid ht1
    have HT2 := Lib.hid ht2
    have HB := Lib.hid hb
    have hsz := hb.size
    have hl1 := ht1.lt
    have hl2 := ht2.lt
    clear ht1 ht2 hb
    by_cases hlt : j < 2
    · have hlt2 : (j : Int) < 2 := by omega
      have hj0 : 0 ≤ (j : Int) := by omega
      obtain ⟨x1, x2⟩ := HNX.out (j : Int) (by omega) (by omega)
      have HSJ := Lib.hid (fun w => HST.out (j : Int) (by omega) (by omega) w)
      have hm1 : (0 : Int) ≤ (j : Int) * M := Int.mul_nonneg hj0 (by omega)
      have hm2 : (j : Int) * M ≤ 60 := by
        have : (j : Int) * M ≤ 1 * M := Int.mul_le_mul_of_nonneg_right (by omega) (by omega)
        omega
      obtain ⟨y, hy⟩ : ∃ y, (j : Int) * M = y := ⟨_, rfl⟩
      have HU : Hid (nx t p (r + y) % M = if j = 0 then nb t p M r 0 else nb t p M r 1) := Lib.hid (by
        rw [← hy, HNB.out, HNB.out]
        have : j = 0 ∨ j = 1 := by omega
        rcases this with rfl | rfl
        · rw [if_pos rfl]; rfl
        · rw [if_neg (by omega)]; rfl)
      rw [hy] at hm1 hm2 x1 x2 HSJ
      obtain ⟨u, hu⟩ : ∃ u, nx t p (r + y) = u := ⟨_, rfl⟩
      rw [hu] at HU HSJ x1 x2
      have HRM := Lib.hid (fun w => remainderOf_any u M w (by omega) (by omega))
      obtain ⟨rr, hrr⟩ : ∃ rr, u % M = rr := ⟨_, rfl⟩
      rw [hrr] at HRM HU
      clear hu hrr
      go_wp2_with fail
      refine (HSJ.out _).mono ?_
      rintro e w2 ⟨rfl, hb2⟩
      have d0 := kept_cell hb2 (by omega) c0
      have d1 := kept_cell hb2 (by omega) c1
      have HT1 := Lib.hid (HT1.out.below hb2 hl1)
      have HT2 := Lib.hid (HT2.out.below hb2 hl2)
      have HB2 := Lib.hid (HB.out.trans (hb2.mono hsz))
      obtain ⟨⟨z, q⟩, qf⟩ := HT2.out.at hlt
      have HN := Lib.hid (HT2.out.next hlt HU.out)
      have HO := Lib.hid (HT1.out.other (k := w.heap.size + 1 + 1) (o := j) (by omega) (.int .i64 rr))
      have f0 := (World.cell?_setCell_other w2 ⟨w.heap.size + 1 + 1, j, none⟩ ⟨w.heap.size, 0, none⟩ (.int .i64 rr) (by simp <;> omega)).trans d0
      have f1 := (World.cell?_setCell_other w2 ⟨w.heap.size + 1 + 1, j, none⟩ ⟨w.heap.size, 1, none⟩ (.int .i64 rr) (by simp <;> omega)).trans d1
      have hfd := field_walk t p u
      clear hb2 c0 c1 hy
      go_wp2_with fail
      refine (HRM.out _).mono ?_
      rintro e w3 ⟨rfl, rfl⟩
      go_wp2_with fail
      exact ⟨⟨j + 1, hlt, by go_num, f0, f1, HO.out, HN.out, HB2.out.setCell (p := ⟨w.heap.size + 1 + 1, j, none⟩) (by simp; omega) _⟩, by simp [RowKit.intOf]; omega⟩
    · have HJ : Hid (j = 2) := Lib.hid (by omega)
      have hlt2 : ¬ ((j : Int) < 2) := by omega
      have HT3 : Hid (TwoAt wr (w.heap.size + 1 + 1) (nb t p M r 0) (nb t p M r 1)) := Lib.hid (by have h := HT2.out; rw [HJ.out] at h; exact h)
      obtain ⟨a0, ha0⟩ : ∃ a, nb t p M r 0 = a := ⟨_, rfl⟩
      obtain ⟨a1, ha1⟩ : ∃ a, nb t p M r 1 = a := ⟨_, rfl⟩
      rw [ha0, ha1] at HT3
      have HA0 := Lib.hid ha0
      have HA1 := Lib.hid ha1
      obtain ⟨q0, q1, qf0, qf1, _⟩ := HT3.out
      obtain ⟨p0, p1, pf0, pf1, _⟩ := HT1.out
      clear c0 c1 hj hlt ha0 ha1
      go_wp2_with fail
      refine bodyPost_ret (v := .agg #[.int .i64 a0, .int .i64 a1]) (by simp [results, Try.results24, go_sem, p0, p1]) rfl ⟨by rw [HA0.out, HA1.out], ?_⟩
      exact (HB.out.setCell (p := ⟨w.heap.size + 1, 0, none⟩) (by simp) _).setCell (p := ⟨w.heap.size + 1, 1, none⟩) (by simp) _
end Go.Proofs.Ytpfclanblcngfaa
