/-
  'FallsWithin' of both.
-/
import Derived.Test.YtencblbkbalmcaaDoorFwI
import Derived.Test.YtencblbkbalmcaaDoorIterS
namespace Go.Proofs.YtencblbkbalmcaaDoor
open Go.RowKit
set_option linter.unusedVariables false

theorem ret_fw {x : Int × Bool} {a : Int} {b : Bool} (h : x = (a, b)) : Ending.returned (.tuple #[.int .i64 a, .bool b]) = .returned (.tuple #[.int .i64 x.1, .bool x.2]) := by rw [h]

theorem iFallsWithin (t p n k : Int) (w : World) :
    Calls Tryd.prog 65 #[.agg #[.int .i64 t, .int .i64 p], .int .i64 n, .int .i64 k] w fun e w' => e = .returned (.tuple #[.int .i64 (fwi t p n k).1, .bool (fwi t p n k).2]) ∧ Below w.heap.size w w' := by
  by_cases h : 1 ≤ k ∧ k ≤ 30
  · obtain ⟨K, rfl⟩ : ∃ K : Nat, k = K := ⟨k.toNat, by omega⟩
    have hf : fwi t p n K = hitK (seqOf t p (sx t p) n) K (fun x => decide (x.2 < n)) := by rw [fwi, if_pos h]; rfl
    rw [hf]
    exact iFallsWithin_any t p n K (by omega) (by omega) _ (numbered_seq _ _ _ _) (fun bw bs => iter_short bw bs t p n) w
  · have hf : fwi t p n k = (0, false) := by rw [fwi, if_neg h]
    have HF := Lib.hid hf
    clear hf
    by_cases h1 : k < 1
    · clear h
      go_enter Tryd.func65, Tryd.ntmps65
      go_wp2_with fail
      refine bodyPost_ret (v := .tuple #[.int .i64 0, .bool false]) (by simp [results, Tryd.results65, go_sem]) rfl ⟨ret_fw HF.out, ?_⟩
      refine (((((Below.refl _ w).alloc ?_ _).alloc ?_ _).alloc ?_ _).alloc ?_ _).alloc ?_ _ <;> (simp <;> omega)
    · have h2 : 30 < k := by omega
      clear h
      go_enter Tryd.func65, Tryd.ntmps65
      go_wp2_with fail
      refine bodyPost_ret (v := .tuple #[.int .i64 0, .bool false]) (by simp [results, Tryd.results65, go_sem]) rfl ⟨ret_fw HF.out, ?_⟩
      refine (((((Below.refl _ w).alloc ?_ _).alloc ?_ _).alloc ?_ _).alloc ?_ _).alloc ?_ _ <;> (simp <;> omega)

theorem fwi_no {t p n k : Int} (h : goodB t p = false ∨ numB n = false ∨ inB k 1 30 = false) : fwi t p n k = (0, false) := by
  unfold fwi
  split
  · rename_i hk
    rw [hitK]
    refine hit_none (fun y hy => ?_)
    have hy := List.mem_of_mem_take hy
    unfold seqOf at hy
    split at hy
    · rename_i hg
      rcases h with h | h | h
      · rw [hg] at h; cases h
      · simp only [upto, List.mem_map, List.mem_range] at hy
        obtain ⟨j, hj, rfl⟩ := hy
        have h2 := ((lt_cnt _ _ _ _).1 hj).2
        have h3 := allB_at (f := sx t p) (n := n) (j := 0) (k := j + 1) (by omega) h2
        rw [itr, h] at h3
        cases h3
      · simp [inB, hk] at h
    · simp at hy
  · rfl

end Go.Proofs.YtencblbkbalmcaaDoor
