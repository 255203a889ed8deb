/-
  THE WALK OF THE LAW 'ParseMap'.
-/
import Derived.Test.YtmocbkpfoddffaaDoorReadMap
namespace Go.Proofs.YtmocbkpfoddffaaDoor
open Go.RowKit
set_option linter.unusedVariables false

set_option maxRecDepth 100000 in
theorem all50 : ∀ A : Fin 5, ∀ B : Fin 10, numOf (fst (byt (mtx (2 * (A.val : Int) + 1) (2 * (B.val : Int) - 9)))) = 2 * (A.val : Int) + 1 ∧ numOf (snd (byt (mtx (2 * (A.val : Int) + 1) (2 * (B.val : Int) - 9)))) = 2 * (B.val : Int) - 9 := by decide +kernel
theorem rdm_yes {A B : Nat} (hA : A < 5) (hB : B < 10) {s : ByteArray} (hs : s = byt (mtx (2 * A + 1) (2 * B - 9))) : rdm s = (2 * (A : Int) + 1, 2 * (B : Int) - 9) := by
  have h := all50 ⟨A, hA⟩ ⟨B, hB⟩
  simp only at h
  rw [← hs] at h
  rw [rdm, h.1, h.2, rdp, if_pos ⟨good_at hA hB, hs.symm⟩]
theorem rdm_no {s : ByteArray} (hs : ∀ t p, goodB t p = true → ¬ (byt (mtx t p) = s)) : rdm s = (0, 0) := by
  rw [rdm, rdp, if_neg (fun h => hs _ _ h.1 h.2)]
theorem which (s : ByteArray) : (∃ A B : Nat, A < 5 ∧ B < 10 ∧ s = byt (mtx (2 * A + 1) (2 * B - 9))) ∨ ∀ t p, goodB t p = true → ¬ (byt (mtx t p) = s) := by
  by_cases h : ∃ A B : Nat, A < 5 ∧ B < 10 ∧ s = byt (mtx (2 * A + 1) (2 * B - 9))
  · exact Or.inl h
  · refine Or.inr fun t p hg e => h ?_
    have k := goodB_iff.1 hg
    refine ⟨((t - 1) / 2).toNat, ((p + 9) / 2).toNat, by omega, by omega, ?_⟩
    rw [show 2 * (((t - 1) / 2).toNat : Int) + 1 = t by omega, show 2 * (((p + 9) / 2).toNat : Int) - 9 = p by omega]
    exact e.symm

theorem put_two {w1 : World} {b : Nat} {x y : Value} (hz : b < w1.heap.size) (d0 : w1.cell? ⟨b, 0, none⟩ = some x) (d1 : w1.cell? ⟨b, 1, none⟩ = some y) (a c : Value) (o : Obj) :
    ((((w1.setCell ⟨b, 0, none⟩ a).setCell ⟨b, 1, none⟩ c).alloc o).cell? ⟨b, 0, none⟩ = some a) ∧ ((((w1.setCell ⟨b, 0, none⟩ a).setCell ⟨b, 1, none⟩ c).alloc o).cell? ⟨b, 1, none⟩ = some c) := by
  have hz2 : b < ((w1.setCell ⟨b, 0, none⟩ a).setCell ⟨b, 1, none⟩ c).heap.size := by simpa using hz
  have hb := (Below.refl _ ((w1.setCell ⟨b, 0, none⟩ a).setCell ⟨b, 1, none⟩ c)).alloc (Nat.le_refl _) o
  rw [hb.cell (p := ⟨b, 0, none⟩) hz2, hb.cell (p := ⟨b, 1, none⟩) hz2]
  constructor
  · simp [go_sem, d0]
  · simp [go_sem, d1]

set_option maxRecDepth 100000 in
set_option maxHeartbeats 1000000 in
theorem iParse_zero (s : ByteArray) (hs : s.size ≤ 1048576) (h : rdm s = (0, 0)) (w : World) (hw : Set3 w) :
    Calls Tryd.prog 20 #[.string s] w fun e w' => e = .returned (.tuple #[.agg #[.int .i64 0, .int .i64 0], .bool false]) ∧ Below w.heap.size w w' := by
  have HR := Lib.hid (fun W hW => readMap_any s hs W hW)
  rw [h] at HR
  have HW := Lib.hid hw
  have h0 := Below.alloc (Below.refl w.heap.size w) (Nat.le_refl _) (.cells #[.int .i64 0, .int .i64 0] 28)
  clear h hw
  go_enter Tryd.func20, Tryd.ntmps20
  go_wp2_with fail
  refine (HR.out _ (HW.out.below h0)).mono ?_
  rintro e w1 ⟨rfl, hb1⟩
  have d0 : w1.cell? ⟨w.heap.size, 0, none⟩ = some (.int .i64 0) := (hb1.cell (p := ⟨w.heap.size, 0, none⟩) (by simp)).trans (by go_simp)
  have d1 : w1.cell? ⟨w.heap.size, 1, none⟩ = some (.int .i64 0) := (hb1.cell (p := ⟨w.heap.size, 1, none⟩) (by simp)).trans (by go_simp)
  have f0 : w1.frozen? ⟨w.heap.size, 0, none⟩ = false := (hb1.frozen (p := ⟨w.heap.size, 0, none⟩) (by simp)).trans (by go_simp)
  have f1 : w1.frozen? ⟨w.heap.size, 1, none⟩ = false := (hb1.frozen (p := ⟨w.heap.size, 1, none⟩) (by simp)).trans (by go_simp)
  have hz : w.heap.size < w1.heap.size := Nat.lt_of_lt_of_le (by simp) hb1.size
  have g1 := h0.trans (hb1.mono (by simp))
  clear hb1 h0
  go_wp2_with fail
  go_region
  go_wp2
  obtain ⟨q0, q1⟩ := put_two hz d0 d1 (.int .i64 0) (.int .i64 0) (.cells #[.int .i64 0, .int .i64 0] 28)
  refine bodyPost_ret (v := .tuple #[.agg #[.int .i64 0, .int .i64 0], .bool false]) ?_ rfl ⟨rfl, ?_⟩
  · simp [results, Tryd.results20, go_sem, q0, q1]
  · exact (((g1.setCell (p := ⟨w.heap.size, 0, none⟩) (Nat.le_refl _) _).setCell (p := ⟨w.heap.size, 1, none⟩) (Nat.le_refl _) _).alloc (by simp; omega) _).drew

set_option maxRecDepth 100000 in
set_option maxHeartbeats 1000000 in
theorem iParse_pos (s : ByteArray) (hs : s.size ≤ 1048576) (t p : Int) (h : rdm s = (t, p)) (ht : 1 ≤ t) (w : World) (hw : Set3 w) :
    Calls Tryd.prog 20 #[.string s] w fun e w' => e = .returned (.tuple #[.agg #[.int .i64 t, .int .i64 p], .bool true]) ∧ Below w.heap.size w w' := by
  have HR := Lib.hid (fun W hW => readMap_any s hs W hW)
  rw [h] at HR
  have HW := Lib.hid hw
  have h0 := Below.alloc (Below.refl w.heap.size w) (Nat.le_refl _) (.cells #[.int .i64 0, .int .i64 0] 28)
  clear h hw
  have hne : (t == 0) = false := by simp; omega
  go_enter Tryd.func20, Tryd.ntmps20
  go_wp2_with fail
  refine (HR.out _ (HW.out.below h0)).mono ?_
  rintro e w1 ⟨rfl, hb1⟩
  have d0 : w1.cell? ⟨w.heap.size, 0, none⟩ = some (.int .i64 0) := (hb1.cell (p := ⟨w.heap.size, 0, none⟩) (by simp)).trans (by go_simp)
  have d1 : w1.cell? ⟨w.heap.size, 1, none⟩ = some (.int .i64 0) := (hb1.cell (p := ⟨w.heap.size, 1, none⟩) (by simp)).trans (by go_simp)
  have f0 : w1.frozen? ⟨w.heap.size, 0, none⟩ = false := (hb1.frozen (p := ⟨w.heap.size, 0, none⟩) (by simp)).trans (by go_simp)
  have f1 : w1.frozen? ⟨w.heap.size, 1, none⟩ = false := (hb1.frozen (p := ⟨w.heap.size, 1, none⟩) (by simp)).trans (by go_simp)
  have hz : w.heap.size < w1.heap.size := Nat.lt_of_lt_of_le (by simp) hb1.size
  have g1 := h0.trans (hb1.mono (by simp))
  clear hb1 h0
  go_wp2_with fail
  go_region
  go_wp2
  obtain ⟨q0, q1⟩ := put_two hz d0 d1 (.int .i64 t) (.int .i64 p) (.cells #[.int .i64 t, .int .i64 p] 28)
  refine bodyPost_ret (v := .tuple #[.agg #[.int .i64 t, .int .i64 p], .bool true]) ?_ rfl ⟨rfl, ?_⟩
  · simp [results, Tryd.results20, go_sem, q0, q1]
  · exact (((g1.setCell (p := ⟨w.heap.size, 0, none⟩) (Nat.le_refl _) _).setCell (p := ⟨w.heap.size, 1, none⟩) (Nat.le_refl _) _).alloc (by simp; omega) _).drew

set_option maxRecDepth 100000 in
theorem sParse_with (s : ByteArray) (a b : Int) (f : Bool) (w : World)
    (HS : ∀ W, Calls Tryd.prog 47 #[.string s] W fun e w' => e = .returned (.tuple #[.agg #[.int .i64 a, .int .i64 b], .bool f]) ∧ Below W.heap.size W w') :
    Calls Tryd.prog 21 #[.string s] w fun e w' => e = .returned (.tuple #[.agg #[.int .i64 a, .int .i64 b], .bool f]) ∧ Below w.heap.size w w' := by
  have KS := Lib.hid HS
  have h0 := Below.alloc (Below.refl w.heap.size w) (Nat.le_refl _) (.cells #[.int .i64 0, .int .i64 0] 28)
  clear HS
  go_enter Tryd.func21, Tryd.ntmps21
  go_wp2_with fail
  refine (KS.out _).mono ?_
  rintro e w1 ⟨rfl, hb1⟩
  have d0 : w1.cell? ⟨w.heap.size, 0, none⟩ = some (.int .i64 0) := (hb1.cell (p := ⟨w.heap.size, 0, none⟩) (by simp)).trans (by go_simp)
  have d1 : w1.cell? ⟨w.heap.size, 1, none⟩ = some (.int .i64 0) := (hb1.cell (p := ⟨w.heap.size, 1, none⟩) (by simp)).trans (by go_simp)
  have f0 : w1.frozen? ⟨w.heap.size, 0, none⟩ = false := (hb1.frozen (p := ⟨w.heap.size, 0, none⟩) (by simp)).trans (by go_simp)
  have f1 : w1.frozen? ⟨w.heap.size, 1, none⟩ = false := (hb1.frozen (p := ⟨w.heap.size, 1, none⟩) (by simp)).trans (by go_simp)
  have g1 := h0.trans (hb1.mono (by simp))
  clear hb1 h0
  go_wp2_with fail
  refine bodyPost_ret (v := .tuple #[.agg #[.int .i64 a, .int .i64 b], .bool f]) ?_ rfl ⟨rfl, ?_⟩
  · simp [results, Tryd.results21, go_sem, d0, d1]
  · exact (g1.setCell (p := ⟨w.heap.size, 0, none⟩) (Nat.le_refl _) _).setCell (p := ⟨w.heap.size, 1, none⟩) (Nat.le_refl _) _

end Go.Proofs.YtmocbkpfoddffaaDoor
