/-
  HOW MANY RESIDUES ARE LEFT: 'countLeft' of the program.
-/
import Derived.Test.YtencblbkbalmcaaFw
import Derived.Test.YtencblbkbalmcaaOwn
import Derived.OwnWalk
import Derived.WalkLawsBesides
import Derived.Deep.Cut
import Derived.Laws.Tables
import Derived.Laws.Rows
import Derived.Laws.CopyOwn
namespace Go.Proofs.Ytencblbkbalmcaa
open Go.RowKit
set_option linter.unusedVariables false

/-- 31 counts. -/
def cl (f : Nat → Nat) : List Value := (List.range 31).map fun (o : Nat) => Value.int .i64 ((f o : Nat) : Int)
theorem cl_length (f : Nat → Nat) : (cl f).length = 31 := by simp [cl]
theorem cl_at (f : Nat → Nat) {o : Nat} (h : o < 31) : (cl f)[o]? = some (.int .i64 ((f o : Nat) : Int)) := by
  unfold cl
  rw [List.getElem?_map, List.getElem?_range h]
  rfl
theorem cl_congr {f g : Nat → Nat} (h : ∀ o, f o = g o) : cl f = cl g := by rw [funext h]
theorem cl_set (f : Nat → Nat) (j v : Nat) (g : Nat → Nat) (hj : g j = v) (hne : ∀ o, o ≠ j → g o = f o) : (cl f).set j (.int .i64 ((v : Nat) : Int)) = cl g := by
  apply List.ext_getElem (by simp [cl])
  intro i h1 h2
  rw [List.getElem_set]
  by_cases e : j = i
  · subst e; simp [cl, hj]
  · simp [cl, e, hne i (fun h => e h.symm)]
/-- The block holds these counts. -/
def CellsC (w : World) (B g : Nat) (f : Nat → Nat) : Prop := w.ownsRow B 49 1 (.slice (some ⟨g, 0, none⟩) 31 31) 31 (cl f)
theorem CellsC.cell {w : World} {B g : Nat} {f : Nat → Nat} (h : CellsC w B g f) {o : Nat} (ho : o < 31) : w.cell? ⟨g, o, none⟩ = some (.int .i64 ((f o : Nat) : Int)) := by
  rw [World.ownsRow.cellAt h o (by omega), cl_at f ho]
theorem CellsC.fz {w : World} {B g : Nat} {f : Nat → Nat} (h : CellsC w B g f) (o : Nat) : w.frozen? ⟨g, o, none⟩ = false := World.ownsRow.frozenAt h o
theorem CellsC.lt {w : World} {B g : Nat} {f : Nat → Nat} (h : CellsC w B g f) : B ≤ g ∧ g < w.heap.size := World.ownsRow.lt h g rfl
theorem CellsC.kept {w w' : World} {B g : Nat} {f : Nat → Nat} (h : CellsC w B g f) (hb : Below w.heap.size w w') : CellsC w' B g f := ownsRow_kept h hb
theorem CellsC.put {w : World} {B g : Nat} {f : Nat → Nat} (h : CellsC w B g f) (j v : Nat) (f' : Nat → Nat) (hj : f' j = v) (hne : ∀ o, o ≠ j → f' o = f o) : CellsC (w.setCell ⟨g, j, none⟩ (.int .i64 ((v : Nat) : Int))) B g f' := by
  have h1 := (World.ownsRow.stored h j (.int .i64 ((v : Nat) : Int))).1
  rw [cl_set f j v f' hj hne] at h1
  exact h1
theorem CellsC.same {w : World} {B g : Nat} {f f' : Nat → Nat} (h : CellsC w B g f) (he : ∀ o, f o = f' o) : CellsC w B g f' := by
  unfold CellsC at *
  rw [← cl_congr he]
  exact h
theorem CellsC.whole {w : World} {B g : Nat} {f : Nat → Nat} (h : CellsC w B g f) : w.heap[g]? = some (.cells (cl f).toArray 49 (0, 0)) := by
  obtain ⟨h1, h2⟩ := h
  rcases h2 with ⟨h3, _⟩ | ⟨g', cap, cur, h3, _, hg, _, _, hs, ht⟩
  · simp at h3
  · simp only [Value.slice.injEq, Option.some.injEq, Addr.mk.injEq] at h3
    obtain ⟨⟨rfl, _⟩, _, rfl⟩ := h3
    rw [hg, ← ht, Nat.mul_one, List.take_of_length_le (by simp [hs])]
theorem load_31 {w : World} {B g : Nat} {f : Nat → Nat} (h : CellsC w B g f) : (loadVar 49 ⟨g, 0, none⟩).run Try.prog w = .ok (.agg (cl f).toArray) w :=
  run_loadVar_row w g _ _ _ _ _ h.whole Try.underlying49 rfl (by rw [show (cl f).toArray.size = 31 by simp [cl]]; kernel_rfl)
/-- The counts as an array. -/
def arr (f : Nat → Nat) : Array Value := (cl f).toArray
theorem arr_size (f : Nat → Nat) : (arr f).size = 31 := by simp [arr, cl]
theorem arr_at (f : Nat → Nat) {o : Nat} (h : o < 31) : (arr f)[o]? = some (.int .i64 ((f o : Nat) : Int)) := by
  rw [arr, List.getElem?_toArray, cl_at f h]
theorem arr_one (f : Nat → Nat) : (arr f).all (·.oneCell') = true := by
  rw [Array.all_eq_true_iff_forall_mem]
  intro v hv
  simp only [arr, cl, List.mem_toArray, List.mem_map] at hv
  obtain ⟨o, _, rfl⟩ := hv
  rfl
theorem info31 : (Try.prog.info? 49).map (·.size) = some 31 := by kernel_rfl
theorem info31z : (Try.prog.info? 49).bind (·.zero) = some (.agg (arr (fun _ => 0))) := by kernel_rfl
theorem zero_31 (w : World) : (zeroValue 49).run Try.prog w = .ok (.agg (arr (fun _ => 0))) w := by
  have h := info31z
  cases hq : Try.prog.info? 49 with
  | none => rw [hq] at h; cases h
  | some i =>
    rw [hq] at h
    have hz : i.zero = some (.agg (arr (fun _ => 0))) := h
    simp [zeroValue, typeInfo, hq, hz]
theorem built_31 : Try.prog.built 49 [(0, .int .i64 1)] = some (arr (fun o => if o = 0 then 1 else 0)) := by kernel_rfl
theorem index_31 (w : World) (f : Nat → Nat) {j : Nat} (h : j < 31) : (Instr.index 49 (.agg (arr f)) (.int .i64 (j : Int))).run Try.prog w = .ok (.int .i64 ((f j : Nat) : Int)) w := by
  have hq := arr_at f h
  have hi : (0 : Int) ≤ (j : Int) ∧ (j : Int) < ((31 : Nat) : Int) := by omega
  have hsz : (sizeOf 3).run Try.prog w = .ok 1 w := by kernel_rfl
  have hag : (isAgg 3).run Try.prog w = .ok false w := by kernel_rfl
  simp only [Instr.index, asIntOf, Sem.run_bind, Sem.run_pure, Result.andThen_ok, run_underlying Try.underlying49, if_pos hi, hsz, part, hag]
  simp [hq]
section
variable {ops : Array Oper} {rest : List Oper} {o : Oper} {a : Act} {w : World} {Q : Exit → Act → World → Prop}
theorem wpList_build31 (hg : o.guard = none) (ho : o.op = .build 49 #[(0, .const (.int .i64 1))])
    (h : wpList Try.prog ops Q rest (a.put o.dst (.agg (arr (fun o => if o = 0 then 1 else 0)))) w) : wpList Try.prog ops Q (o :: rest) a w := by
  have hb : Try.prog.built 49 ((#[(0, Operand.const (.int .i64 1))] : Array (Nat × Operand)).map fun (i, x) => (i, a.eval x)).toList = some (arr (fun o => if o = 0 then 1 else 0)) := by
    have e : ((#[(0, Operand.const (.int .i64 1))] : Array (Nat × Operand)).map fun (i, x) => (i, a.eval x)).toList = [(0, .int .i64 1)] := by simp; rfl
    rw [e]
    exact built_31
  refine wpList_build hg _ _ ho (by rw [hb]; rfl) ?_
  rw [hb]
  exact h
theorem wpList_alloc31 (hg : o.guard = none) (ho : o.op = .alloc 49)
    (h : wpList Try.prog ops Q rest (a.put o.dst (.pointer (some ⟨w.heap.size, 0, none⟩))) (w.alloc (.cells (arr (fun _ => 0)) 49))) : wpList Try.prog ops Q (o :: rest) a w :=
  wpList_plain hg fun K hK => by
    have hr : (Instr.alloc 49 true (.tuple #[])).run Try.prog w = .ok (.pointer (some ⟨w.heap.size, 0, none⟩)) (w.alloc (.cells (arr (fun _ => 0)) 49)) := by
      simp only [Instr.alloc, Sem.run_bind, zero_31, Result.andThen_ok]
      simp [newVar, newRow, Value.cells]
    unfold Oper.wp execOp
    simp only [ho, Sem.run_bind, hr, Result.andThen_ok]
    exact hK _ _ h
theorem wpList_store31 (hgd : o.guard = none) (x y : Operand) (ho : o.op = .store 49 x y) (g : Nat) (f f' : Nat → Nat) (hx : a.eval x = .pointer (some ⟨g, 0, none⟩)) (hy : a.eval y = .agg (arr f))
    (hg : w.heap[g]? = some (.cells (arr f') 49 (0, 0))) (h : wpList Try.prog ops Q rest (a.put o.dst undef) (w.setRow g (arr f))) : wpList Try.prog ops Q (o :: rest) a w :=
  wpList_store_row hgd _ x y ho g (arr f) hx hy _ _ hg (by rw [info31, arr_size]) (by rw [arr_size, arr_size]) (arr_one f) h
theorem wpList_load31 (hgd : o.guard = none) (x : Operand) (ho : o.op = .load 49 x) (B g : Nat) (f : Nat → Nat) (hx : a.eval x = .pointer (some ⟨g, 0, none⟩)) (hc : CellsC w B g f)
    (h : wpList Try.prog ops Q rest (a.put o.dst (.agg (arr f))) w) : wpList Try.prog ops Q (o :: rest) a w :=
  wpList_load_row hgd _ x ho g hx _ _ _ _ hc.whole Try.underlying49 rfl (by rw [info31]; simp [cl]) h
end

/-- Behind the odd numbers greater than j. -/
def stg (t : Int) (k j o : Nat) : Nat := if j < o then sm t k o else wyR t k o
theorem stg_start (t : Int) (k o : Nat) : wyR t k o = stg t k (k + 1) o := by
  unfold stg
  split
  · rw [wyR_gt t (by omega), sm_gt t (by omega)]
  · rfl
theorem stg_end (t : Int) (k o : Nat) : stg t k 0 o = sm t k o := by
  unfold stg
  split
  · rfl
  · obtain rfl : o = 0 := by omega
    rw [sm, if_pos rfl]; omega
theorem stg_at (t : Int) (k j : Nat) : stg t k (j + 1) (j + 1) + stg t k (j + 1) j = sm t k (j + 1) := by
  unfold stg
  rw [if_neg (by omega), if_neg (by omega), sm, if_neg (by omega), Nat.add_sub_cancel]
theorem stg_le (t : Int) (k j o : Nat) : stg t k j o ≤ 2 ^ (k + 1) := by
  unfold stg
  have := wyR_le t k o
  have := sm_le t k o
  split <;> (try rw [Nat.pow_succ]) <;> omega
/-- Behind the first j of the next round. -/
def stf (t : Int) (k j o : Nat) : Nat := if o < j then wyR t (k + 1) o else sm t k o
theorem stf_start (t : Int) (k o : Nat) : sm t k o = stf t k 0 o := by rw [stf, if_neg (by omega)]
theorem stf_end (t : Int) (k o : Nat) : stf t k (k + 2) o = wyR t (k + 1) o := by
  unfold stf
  split
  · rfl
  · rw [sm_gt t (by omega), wyR_gt t (by omega)]
theorem stf_fall {t : Int} {k j : Nat} (h : fl t j (k + 1) = true) : stf t k (j + 1) j = 0 := by rw [stf, if_pos (by omega), wyR_succ, if_pos h]
theorem stf_stay {t : Int} {k j : Nat} (h : fl t j (k + 1) = false) (o : Nat) : stf t k j o = stf t k (j + 1) o := by
  unfold stf
  by_cases e : o = j
  · subst e; rw [if_neg (by omega), if_pos (by omega), wyR_succ, if_neg (by simp [h])]
  · by_cases h2 : o < j
    · rw [if_pos h2, if_pos (by omega)]
    · rw [if_neg h2, if_neg (by omega)]
theorem stf_ne (t : Int) (k : Nat) {j o : Nat} (h : o ≠ j) : stf t k (j + 1) o = stf t k j o := by
  unfold stf
  by_cases h2 : o < j
  · rw [if_pos (by omega), if_pos h2]
  · rw [if_neg (by omega), if_neg h2]
theorem stg_ne (t : Int) (k : Nat) {j o : Nat} (h : o ≠ j + 1) : stg t k j o = stg t k (j + 1) o := by
  unfold stg
  by_cases h2 : j + 1 < o
  · rw [if_pos (by omega), if_pos h2]
  · rw [if_neg (by omega), if_neg h2]

theorem cellsC_new (w : World) (A : Obj) (f f' : Nat → Nat) (g : Nat) (hg : w.heap.size + 1 = g) : CellsC (((w.alloc A).alloc (.cells (arr f') 49)).setRow g (arr f)) g g f := by
  subst hg
  refine ⟨by rw [cl_length], .inr ⟨_, 31, arr f, rfl, Nat.le_refl _, setRow_heap _ _ _ _ _ _ (heap_alloc2_new _ _ _), by omega, by unfold maxLen; omega, by rw [arr_size], ?_⟩⟩
  rw [arr, List.take_of_length_le (by simp [cl])]

set_option maxRecDepth 100000 in
set_option maxHeartbeats 4000000 in
theorem countLeft_any (t p : Int) (K : Nat) (w : World) (hg : goodB t p = true) (hK : K ≤ 30) :
    Calls Try.prog 25 #[.agg #[.int .i64 t, .int .i64 p], .int .i64 (K : Int)] w fun e w' => e = .returned (.int .i64 (lf t K : Nat)) ∧ Below w.heap.size w w' := by
  have HG := Lib.hid hg
  have hK1 : (K : Int) ≤ 30 := by omega
  have HC0 : Hid (CellsC (((w.alloc (.cells #[.int .i64 t, .int .i64 p] 26)).alloc (.cells (arr (fun _ => 0)) 49)).setRow (w.heap.size + 1) (arr (fun o => if o = 0 then 1 else 0))) (w.heap.size + 1) (w.heap.size + 1) (wyR t 0)) := Lib.hid (cellsC_new w _ (fun o => if o = 0 then 1 else 0) _ _ rfl)
  have hB0 : Below w.heap.size w (((w.alloc (.cells #[.int .i64 t, .int .i64 p] 26)).alloc (.cells (arr (fun _ => 0)) 49)).setRow (w.heap.size + 1) (arr (fun o => if o = 0 then 1 else 0))) := below_setRow (((Below.refl _ w).alloc (Nat.le_refl _) _).alloc (by simp) _) (by omega) _
  have q0 : (((w.alloc (.cells #[.int .i64 t, .int .i64 p] 26)).alloc (.cells (arr (fun _ => 0)) 49)).setRow (w.heap.size + 1) (arr (fun o => if o = 0 then 1 else 0))).cell? ⟨w.heap.size, 0, none⟩ = some (.int .i64 t) := (cell_setRow_other _ _ _ _ (by simp)).trans (by go_simp)
  have q1 : (((w.alloc (.cells #[.int .i64 t, .int .i64 p] 26)).alloc (.cells (arr (fun _ => 0)) 49)).setRow (w.heap.size + 1) (arr (fun o => if o = 0 then 1 else 0))).cell? ⟨w.heap.size, 1, none⟩ = some (.int .i64 p) := (cell_setRow_other _ _ _ _ (by simp)).trans (by go_simp)
  have HB0 := Lib.hid hB0
  have HQ0 := Lib.hid q0
  have HQ1 := Lib.hid q1
  clear hg hB0 q0 q1
  go_enter Try.func25, Try.ntmps25
  go_upto_region 1 with fail
  go_wp2_with (first
    | (refine wpList_build31 rfl rfl ?_)
    | (refine wpList_alloc31 rfl rfl ?_)
    | (refine wpList_store31 rfl _ _ rfl (w.heap.size + 1) (fun o => if o = 0 then 1 else 0) (fun _ => 0) (by simp [go_sem]) (by simp [go_sem]) (heap_alloc2_new _ _ _) ?_))
  go_loopw [6] (fun x wr => ∃ k : Nat, k ≤ K ∧ x = .int .i64 ((k : Int) + 1) ∧ CellsC wr (w.heap.size + 1) (w.heap.size + 1) (wyR t k) ∧ wr.cell? ⟨w.heap.size, 0, none⟩ = some (.int .i64 t) ∧ wr.cell? ⟨w.heap.size, 1, none⟩ = some (.int .i64 p) ∧ Below w.heap.size w wr) (fun x _ => K + 1 - (intOf x).toNat)
  case atStart => exact ⟨0, Nat.zero_le _, by simp, HC0.out, HQ0.out, HQ1.out, HB0.out⟩
  case round =>
    clear HC0 HB0 HQ0 HQ1
    obtain ⟨k, hk, rfl, hc, c0, c1, hb⟩ := hrel
    have HC := Lib.hid hc
    have HB := Lib.hid hb
    have hgl := hc.lt.2
    clear hc hb
    by_cases hlt : k < K
    · have hle : (k : Int) + 1 ≤ (K : Int) := by omega
      have hP30 := pow30 (k := k + 1) (by omega)
      have HLE := Lib.hid (fun j o => Nat.le_trans (stg_le t k j o) hP30)
      have HB30 := Lib.hid (show k + 1 ≤ 30 by omega)
      have HKK := Lib.hid hlt
      obtain ⟨wo, rfl⟩ : ∃ wo : World, wo = wr := ⟨_, rfl⟩
      clear hP30 hk hlt
      go_wp2_with fail
      go_loopw [7] (fun x wr => ∃ j : Nat, j ≤ k + 1 ∧ x = .int .i64 (j : Int) ∧ CellsC wr (w.heap.size + 1) (w.heap.size + 1) (stg t k j) ∧ wr.cell? ⟨w.heap.size, 0, none⟩ = some (.int .i64 t) ∧ wr.cell? ⟨w.heap.size, 1, none⟩ = some (.int .i64 p) ∧ Below w.heap.size w wr) (fun x _ => (intOf x).toNat)
      case atStart => exact ⟨k + 1, Nat.le_refl _, by simp, HC.out.same (fun o => stg_start t k o), c0, c1, HB.out⟩
      case round =>
        clear HC HB c0 c1
        obtain ⟨j, hj, rfl, hc, c0, c1, hb⟩ := hrel
        have HC := Lib.hid hc
        have HB := Lib.hid hb
        have hgl2 := hc.lt.2
        have hjb : j ≤ 31 := by have := HB30.out; omega
        clear hc hb
        by_cases h0 : j = 0
        · have hc1 := HC.out
          rw [h0] at hc1
          have hc1 := hc1.same (fun o => (stg_end t k o).trans (stf_start t k o))
          have hgt0 : ¬ (0 < (j : Int)) := by omega
          have HC1 := Lib.hid hc1
          obtain ⟨wp, rfl⟩ : ∃ wp : World, wp = wr := ⟨_, rfl⟩
          clear hc1 HC hj h0 hjb
          obtain ⟨j7, hj7⟩ : ∃ j7 : Int, j7 = (j : Int) := ⟨_, rfl⟩
          rw [← hj7] at hgt0 ⊢
          clear hj7
          have hk30 : (k : Int) + 1 ≤ 30 := by have := HB30.out; omega
          go_wp2_with fail
          go_loopw [8, 34] (fun _ x wr => ∃ j : Nat, j ≤ k + 2 ∧ x = .int .i64 (j : Int) ∧ CellsC wr (w.heap.size + 1) (w.heap.size + 1) (stf t k j) ∧ wr.cell? ⟨w.heap.size, 0, none⟩ = some (.int .i64 t) ∧ wr.cell? ⟨w.heap.size, 1, none⟩ = some (.int .i64 p) ∧ Below w.heap.size w wr) (fun _ x _ => k + 2 - (intOf x).toNat)
          case atStart => exact ⟨0, Nat.zero_le _, by simp, HC1.out, c0, c1, HB.out⟩
          case round =>
            clear HC1 HB c0 c1
            obtain ⟨j, hj, rfl, hc, c0, c1, hb⟩ := hrel
            have HC := Lib.hid hc
            have HB := Lib.hid hb
            have hgl3 := hc.lt.2
            clear hc hb
            by_cases hlt : j < k + 2
            · have hlt2 : (j : Int) < (k : Int) + 1 + 1 := by omega
              have hj31 : j < 31 := by have := HB30.out; omega
              have hj31' : (j : Int) < 31 := by omega
              have HF := Lib.hid (fun w => falls_any t p j (k + 1) w HG.out (by omega) HB30.out)
              rw [show ((k + 1 : Nat) : Int) = (k : Int) + 1 from rfl] at HF
              cases hf : fl t j (k + 1)
              · have HSAME := Lib.hid (fun o => stf_stay hf o)
                rw [hf] at HF
                clear hf
                go_wp2_with fail
                refine (HF.out _).mono ?_
                rintro e w4 ⟨rfl, hb4⟩
                have HC4 := Lib.hid ((HC.out.kept hb4).same HSAME.out)
                have d0 := kept_cell hb4 (by omega) c0
                have d1 := kept_cell hb4 (by omega) c1
                have HB4 := Lib.hid (HB.out.trans (hb4.mono HB.out.size))
                clear hb4 c0 c1
                go_wp2_with fail
                exact ⟨⟨j + 1, hlt, by go_num, HC4.out, d0, d1, HB4.out⟩, by simp [intOf]; omega⟩
              · have HFALL := Lib.hid (stf_fall hf)
                have HNE := Lib.hid (fun o (h : o ≠ j) => stf_ne t k h)
                rw [hf] at HF
                clear hf
                go_wp2_with fail
                refine (HF.out _).mono ?_
                rintro e w4 ⟨rfl, hb4⟩
                have HC4 := Lib.hid (HC.out.kept hb4)
                have q := HC4.out.cell hj31
                have qf := HC4.out.fz j
                have HP := Lib.hid (HC4.out.put j 0 (stf t k (j + 1)) HFALL.out HNE.out)
                have d0 := kept_cell hb4 (by omega) c0
                have d1 := kept_cell hb4 (by omega) c1
                have HB4 := Lib.hid (HB.out.trans (hb4.mono HB.out.size))
                have hsz4 := HB4.out.size
                have hne : ¬ (w.heap.size + 1 = w.heap.size) := by omega
                have f0 := (World.cell?_setCell_other w4 ⟨w.heap.size + 1, j, none⟩ ⟨w.heap.size, 0, none⟩ (.int .i64 0) (by simp)).trans d0
                have f1 := (World.cell?_setCell_other w4 ⟨w.heap.size + 1, j, none⟩ ⟨w.heap.size, 1, none⟩ (.int .i64 0) (by simp)).trans d1
                clear hb4 c0 c1
                go_wp2_with fail
                exact ⟨⟨j + 1, hlt, by go_num, HP.out, f0, f1, HB4.out.setCell (p := ⟨w.heap.size + 1, j, none⟩) (by simp) _⟩, by simp [intOf]; omega⟩
            · have HJ : Hid (j = k + 2) := Lib.hid (by omega)
              have hlt2 : ¬ ((j : Int) < (k : Int) + 1 + 1) := by omega
              have HC2 : Hid (CellsC wr (w.heap.size + 1) (w.heap.size + 1) (wyR t (k + 1))) := Lib.hid (by
                have h := HC.out
                rw [HJ.out] at h
                exact h.same (fun o => stf_end t k o))
              have HKK2 := HKK.out
              clear hj hlt
              go_wp2_with fail
              exact ⟨⟨k + 1, HKK.out, by go_num, HC2.out, c0, c1, HB.out⟩, by simp [intOf]; omega⟩
        · obtain ⟨i, rfl⟩ : ∃ i, j = i + 1 := ⟨j - 1, by omega⟩
          have hgt : 0 < ((i + 1 : Nat) : Int) := by omega
          have hi31 : i + 1 < 31 := by have := HB30.out; omega
          have hi31' : (i : Int) + 1 < 31 := by omega
          have hi30 : i < 31 := by omega
          have hi30' : (i : Int) < 31 := by omega
          have q1 := HC.out.cell hi31
          have q2 := HC.out.cell hi30
          have qf := HC.out.fz (i + 1)
          have HAT := Lib.hid (stg_at t k i)
          have l1 := HLE.out (i + 1) (i + 1)
          have l2 := HLE.out (i + 1) i
          have HP := Lib.hid (HC.out.put (i + 1) (stg t k (i + 1) (i + 1) + stg t k (i + 1) i) (stg t k i) (by rw [HAT.out, stg, if_pos (by omega)]) (fun o ho => stg_ne t k ho))
          obtain ⟨A, hA⟩ : ∃ A, A = stg t k (i + 1) (i + 1) := ⟨_, rfl⟩
          obtain ⟨C, hC⟩ : ∃ C, C = stg t k (i + 1) i := ⟨_, rfl⟩
          rw [← hA] at q1 l1 HP
          rw [← hC] at q2 l2 HP
          have l1' : (A : Int) ≤ 2147483648 := by omega
          have l2' : (C : Int) ≤ 2147483648 := by omega
          have f0 := (World.cell?_setCell_other wr ⟨w.heap.size + 1, i + 1, none⟩ ⟨w.heap.size, 0, none⟩ (.int .i64 ((A + C : Nat) : Int)) (by simp)).trans c0
          have f1 := (World.cell?_setCell_other wr ⟨w.heap.size + 1, i + 1, none⟩ ⟨w.heap.size, 1, none⟩ (.int .i64 ((A + C : Nat) : Int)) (by simp)).trans c1
          clear hA hC h0 l1 l2 c0 c1 HAT
          go_wp2_with fail
          go_region
          all_goals
            go_wp2_with fail
            exact ⟨⟨i, by omega, by go_num, World.ownsRow.drew HP.out, f0, f1, (HB.out.setCell (p := ⟨w.heap.size + 1, i + 1, none⟩) (by simp) _).drew⟩, by simp [intOf]⟩
    · obtain rfl : k = K := by omega
      have hle : ¬ ((k : Int) + 1 ≤ (k : Int)) := by omega
      have HL := Lib.hid (lf_far t (k := k) (n := 31) (by omega))
      have hP30 := pow30 (k := k) (by omega)
      have HSL := Lib.hid (fun i (h : i ≤ 31) => Nat.le_trans (sumR_mono (wyR t k) h) (by rw [HL.out]; exact Nat.le_trans (lf_le t k) hP30))
      have HWL := Lib.hid (fun o => Nat.le_trans (wyR_le t k o) hP30)
      have HIX := Lib.hid (fun (j : Nat) (h : j < 31) w => index_31 w (wyR t k) h)
      clear hP30 hlt hk
      go_wp2_with (first
        | (refine wpList_load31 rfl _ rfl _ (w.heap.size + 1) (wyR t k) (by simp [go_sem]) HC.out ?_))
      go_loop [9, 45] (fun x y => ∃ j : Nat, j ≤ 31 ∧ y = .int .i64 (j : Int) ∧ x = .int .i64 (sumR (wyR t k) j : Nat)) (fun _ y => 31 - (intOf y).toNat)
      case atStart => exact ⟨0, Nat.zero_le _, rfl, rfl⟩
      case round =>
        obtain ⟨j, hj, rfl, rfl⟩ := hrel
        by_cases hlt : j < 31
        · have hlt2 : (j : Int) < 31 := by omega
          have hs1 := HSL.out j hj
          have hs2 := HWL.out j
          have hix := HIX.out j hlt
          have HST : Hid (sumR (wyR t k) (j + 1) = sumR (wyR t k) j + wyR t k j) := Lib.hid rfl
          obtain ⟨A, hA⟩ : ∃ A, A = sumR (wyR t k) j := ⟨_, rfl⟩
          obtain ⟨C, hC⟩ : ∃ C, C = wyR t k j := ⟨_, rfl⟩
          rw [← hA] at hs1 HST ⊢
          rw [← hC] at hs2 hix HST
          have l1' : (A : Int) ≤ 2147483648 := by omega
          have l2' : (C : Int) ≤ 2147483648 := by omega
          clear hA hC hs1 hs2
          go_wp2_with fail
          exact ⟨⟨j + 1, hlt, by go_num, by rw [HST.out]; rfl⟩, by simp [intOf]; omega⟩
        · obtain rfl : j = 31 := by omega
          clear HIX
          go_wp2_with fail
          go_ret
          exact ⟨ret_int (by rw [HL.out]), HB.out⟩
end Go.Proofs.Ytencblbkbalmcaa
