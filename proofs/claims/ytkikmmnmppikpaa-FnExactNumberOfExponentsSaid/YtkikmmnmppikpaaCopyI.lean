/-
  A LIST THAT THE CALLER GAVE, AND ITS COPY: 'toIntS'.
-/
import Derived.Test.YtkikmmnmppikpaaLists
import Derived.Test.YtkikmmnmppikpaaCpF
import Derived.OwnWalk
import Derived.WalkLawsBesides
namespace Go.Proofs.Ytkikmmnmppikpaa
open Go.RowKit
set_option linter.unusedVariables false

/-- The caller's list: wherever it lies, nil or not. -/
def ArgI (w : World) (v : Value) (xs : List Int) : Prop :=
  ∃ a cap, v = .slice a xs.length cap ∧ (xs ≠ [] → ∃ b off, a = some ⟨b, off, none⟩ ∧ b < w.heap.size ∧ ∀ j, j < xs.length → w.cell? ⟨b, off + j, none⟩ = some (.int .i64 (xs.getD j 0)))
theorem ArgI.kept {w w' : World} {v : Value} {xs : List Int} {n : Nat} (h : ArgI w v xs) (hb : Below n w w') (hn : w.heap.size ≤ n) : ArgI w' v xs := by
  obtain ⟨a, cap, rfl, hx⟩ := h
  refine ⟨a, cap, rfl, fun hne => ?_⟩
  obtain ⟨b, off, rfl, hlt, hc⟩ := hx hne
  exact ⟨b, off, rfl, Nat.lt_of_lt_of_le hlt hb.size, fun j hj => (hb.cell (p := ⟨b, off + j, none⟩) (Nat.lt_of_lt_of_le hlt hn)).trans (hc j hj)⟩

theorem info3c : (Try.prog.info? 3).map (fun i => (i.zero, i.size, i.bytes)) = some (some (.int .i64 0), 1, 8) := by kernel_rfl

set_option maxRecDepth 100000 in
set_option maxHeartbeats 2000000 in
theorem toIntS_any (xs : List Int) (v : Value) (w : World) (hl : xs.length ≤ 1048576) (h : ArgI w v xs) :
    Calls Try.prog 49 #[v] w fun e w' => ∃ v', e = .returned v' ∧ IntsAt w' w.heap.size v' xs ∧ Below w.heap.size w w' := by
  obtain ⟨a, cap, rfl, hx⟩ := h
  have HF := Lib.hid (cpF_full xs)
  have HS := Lib.hid (fun j => cpF_set xs j)
  have HZ := Lib.hid (cpF_zero xs)
  have HN := Lib.hid (cpF_length xs)
  obtain ⟨K, hK⟩ : ∃ K, K = xs.length := ⟨_, rfl⟩
  rw [← hK] at hl HF HZ hx ⊢
  have HK := Lib.hid hK
  have hK1 : (K : Int) ≤ 1048576 := by omega
  have HX := Lib.hid hx
  clear hx hK
  obtain ⟨i0, hi, hi0, hi1, hi2⟩ := info_parts info3c
  go_enter Try.func49, Try.ntmps49
  go_wp2_with (at_make; refine wpList_make_full _ rfl _ _ 24 rfl w.heap.size 3 i0 (.int .i64 0) 1 Try.underlying24 hi hi0 hi1 .i64 .i64 K K K rfl rfl rfl rfl ?c1 ?c2 ?c3 ?_; rotate_right; intro w3 hown3 hgrow3)
  case c1 => rw [hi2]; omega
  case c2 => unfold maxLen; omega
  case c3 => simp
  have HW3 : Hid (Below w.heap.size w w3) := Lib.hid ((Below.refl _ w).grown hgrow3 (Nat.le_refl _) (fun k e => by simp at e))
  have HO3 : Hid (w3.ownsRow w.heap.size 3 1 (.slice (some ⟨w.heap.size, 0, none⟩) K K) K ((cpF xs 0).map (Value.int .i64))) := Lib.hid (by
    rw [HZ.out, List.map_replicate]
    have := hown3
    rw [show (Value.int .i64 0).cells = #[Value.int .i64 0] from rfl, Nat.mul_one, toList_madeCells_one] at this
    simpa using this)
  clear hown3 hgrow3
  go_loopw [4] (fun x wr => ∃ j : Nat, j ≤ K ∧ x = .int .i64 j ∧ wr.ownsRow w.heap.size 3 1 (.slice (some ⟨w.heap.size, 0, none⟩) K K) K ((cpF xs j).map (Value.int .i64)) ∧ Below w.heap.size w wr) (fun x _ => K - (intOf x).toNat)
  case atStart => exact ⟨0, by omega, rfl, HO3.out, HW3.out⟩
  case round =>
    obtain ⟨j, hj, rfl, hown, hbr⟩ := hrel
    have HO := Lib.hid hown
    have HBR := Lib.hid hbr
    by_cases hlt : j < K
    · obtain ⟨b, off, rfl, hbl, hc⟩ := HX.out (by intro e; rw [e] at HK; have := HK.out; simp at this; omega)
      have q : wr.cell? ⟨b, off + j, none⟩ = some (.int .i64 (xs.getD j 0)) := (hbr.cell (p := ⟨b, off + j, none⟩) hbl).trans (hc j hlt)
      have hjK : (j : Int) < (K : Int) := by omega
      have hj0 : (0 : Int) ≤ (j : Int) := by omega
      have hw1 : w.heap.size ≤ w.heap.size := Nat.le_refl _
      have qc : ∃ u, wr.cell? ⟨w.heap.size, j, none⟩ = some (.int .i64 u) := by
        refine ⟨(cpF xs j).getD j 0, ?_⟩
        rw [World.ownsRow.cellAt hown j (by omega), List.getElem?_map, List.getElem?_eq_getElem (by rw [HN.out, ← HK.out]; exact hlt)]
        simp [List.getD, HN.out, ← HK.out, hlt]
      obtain ⟨u, qc⟩ := qc
      have qf : wr.frozen? ⟨w.heap.size, j, none⟩ = false := World.ownsRow.frozenAt hown j
      have HSJ := Lib.hid (HS.out j)
      clear hown hbr hc
      generalize xs.getD j 0 = x at q HSJ
      go_wp2_with fail
      have hst := World.ownsRow.stored HO.out j (.int .i64 x)
      rw [HSJ.out] at hst
      exact ⟨⟨j + 1, hlt, by go_num, hst.1, HBR.out.setCell (p := ⟨w.heap.size, j, none⟩) hw1 _⟩, by simp [intOf]; omega⟩
    · obtain rfl : j = K := by omega
      have hjj : ¬ ((j : Int) < (j : Int)) := by omega
      clear hown hbr
      go_wp2_with fail
      go_ret
      refine ⟨_, rfl, ?_, HBR.out⟩
      have h2 := HO.out
      rw [HF.out] at h2
      unfold IntsAt
      rw [← HK.out]
      exact h2
end Go.Proofs.Ytkikmmnmppikpaa
