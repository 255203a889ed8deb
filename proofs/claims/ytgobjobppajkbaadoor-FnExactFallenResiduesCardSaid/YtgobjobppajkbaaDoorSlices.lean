/-
  WHAT THE LAWS DO TO A SLICE OF INTEGERS: it is held against another, marked, and read again.
-/
import Derived.Test.YtgobjobppajkbaaDoorIntRows
import Derived.Test.YtgobjobppajkbaaDoorTouch
import Derived.WalkSmall
namespace Go.Proofs.YtgobjobppajkbaaDoor
open Go.RowKit
set_option linter.unusedVariables false

set_option maxRecDepth 100000 in
set_option maxHeartbeats 1000000 in
theorem eqIntS_row (xs : List Int) (g cap g' cap' : Nat) (w : World) (hg : g < w.heap.size) (hg' : g' < w.heap.size) (hl : xs.length ≤ maxLen) (h : IntRow w g xs) (h' : IntRow w g' xs) :
    Calls Tryd.prog 42 #[.slice (some ⟨g, 0, none⟩) xs.length cap, .slice (some ⟨g', 0, none⟩) xs.length cap'] w fun e w' => e = .returned (.bool true) ∧ Below w.heap.size w w' := by
  obtain ⟨L, hL⟩ : ∃ L, L = xs.length := ⟨_, rfl⟩
  rw [← hL] at hl ⊢
  have HL := Lib.hid hL
  have hl2 : (L : Int) ≤ 9223372036854775807 := by unfold maxLen at hl; omega
  have H := Lib.hid h
  have H' := Lib.hid h'
  clear hL hl h h'
  go_enter Tryd.func42, Tryd.ntmps42
  go_wp2_with fail
  go_loopw [5] (fun i wr => ∃ k : Nat, k ≤ L ∧ i = .int .i64 k ∧ Below w.heap.size w wr) (fun i _ => L - (intOf i).toNat)
  case atStart => exact ⟨0, Nat.zero_le _, rfl, Below.refl _ _⟩
  case round =>
    obtain ⟨k, hk, rfl, hb⟩ := hrel
    by_cases hlt : k < L
    · have q : wr.cell? ⟨g, k, none⟩ = some (.int .i64 (xs.getD k 0)) := (hb.cell (p := ⟨g, k, none⟩) hg).trans (H.out k (by rw [← HL.out]; exact hlt)).1
      have q' : wr.cell? ⟨g', k, none⟩ = some (.int .i64 (xs.getD k 0)) := (hb.cell (p := ⟨g', k, none⟩) hg').trans (H'.out k (by rw [← HL.out]; exact hlt)).1
      generalize xs.getD k 0 = v at q q'
      have hk0 : (0 : Int) ≤ (k : Int) := by omega
      have hk1 : (k : Int) < (L : Int) := by omega
      go_wp2
      go_quiet (fail)
      go_wp2
      exact ⟨⟨k + 1, hlt, by go_num, below_drewN hb _⟩, by simp [intOf]; omega⟩
    · go_wp2
      go_ret
      exact ⟨rfl, hb⟩

/-- The numbers 1, 2, .. in a row. -/
def marked (L : Nat) : List Int := (List.range L).map fun (i : Nat) => (i : Int) + 1

set_option maxRecDepth 100000 in
set_option maxHeartbeats 1000000 in
theorem markIntS_row (xs : List Int) (g cap : Nat) (w : World) (hg : g < w.heap.size) (hl : xs.length ≤ 1000000000000) (h : IntRow w g xs) :
    Calls Tryd.prog 43 #[.slice (some ⟨g, 0, none⟩) xs.length cap, .int .i64 1] w fun e w' => e = .returned (.int .i64 ((xs.length : Int) + 1)) ∧ Touch g (g + 1) w w' ∧ IntRow w' g (marked xs.length) := by
  obtain ⟨L, hL⟩ : ∃ L, L = xs.length := ⟨_, rfl⟩
  rw [← hL] at hl ⊢
  have HL := Lib.hid hL
  have hl2 : (L : Int) + 1 ≤ 9223372036854775807 := by omega
  have H := Lib.hid h
  clear hL hl h
  go_enter Tryd.func43, Tryd.ntmps43
  go_wp2_with fail
  go_loopw [1, 5] (fun m i wr => ∃ k : Nat, k ≤ L ∧ i = .int .i64 k ∧ m = .int .i64 ((k : Int) + 1) ∧ Touch g (g + 1) w wr ∧ (∀ j, j < k → wr.cell? ⟨g, j, none⟩ = some (.int .i64 ((j : Int) + 1))) ∧ (∀ j, k ≤ j → j < L → wr.cell? ⟨g, j, none⟩ = some (.int .i64 (xs.getD j 0))) ∧ (∀ j, j < L → wr.frozen? ⟨g, j, none⟩ = false)) (fun _ i _ => L - (intOf i).toNat)
  case atStart => exact ⟨0, Nat.zero_le _, rfl, by simp, Touch.refl _ _ _, by simp, fun j _ hj => (H.out j (by rw [← HL.out]; exact hj)).1, fun j hj => (H.out j (by rw [← HL.out]; exact hj)).2⟩
  case round =>
    obtain ⟨k, hk, rfl, rfl, hb, h1, h2, h3⟩ := hrel
    by_cases hlt : k < L
    · have q := h2 k (Nat.le_refl k) hlt
      have qf := h3 k hlt
      have H1 := Lib.hid h1
      have H2 := Lib.hid h2
      have H3 := Lib.hid h3
      clear h1 h2 h3
      go_wp2
      refine ⟨⟨k + 1, hlt, by go_num, by go_num, hb.setCell (p := ⟨g, k, none⟩) (Nat.le_refl _) (Nat.lt_succ_self _) _, ?_, ?_, ?_⟩, by simp [intOf]; omega⟩
      · intro j hj
        by_cases e : j = k
        · subst e; exact World.cell?_setCell_same' _ _ _ (by rw [q]; rfl)
        · exact (World.cell?_setCell_other _ _ _ _ (by simp; try omega)).trans (H1.out j (by omega))
      · intro j hj hj2
        exact (World.cell?_setCell_other _ _ _ _ (by simp; try omega)).trans (H2.out j (by omega) hj2)
      · intro j hj
        rw [World.frozen?_setCell]
        exact H3.out j hj
    · obtain rfl : k = L := by omega
      have hrow : IntRow wr g (marked k) := by
        intro j hj
        have hj' : j < k := by simpa [marked] using hj
        refine ⟨?_, h3 j hj'⟩
        rw [h1 j hj']
        simp [marked, List.getD_eq_getElem?_getD, hj']
      have HROW := Lib.hid hrow
      clear h1 h2 h3 hrow
      go_wp2
      go_ret
      exact ⟨rfl, hb, HROW.out⟩

set_option maxRecDepth 100000 in
set_option maxHeartbeats 1000000 in
theorem heldIntS_row (L g cap : Nat) (w : World) (hg : g < w.heap.size) (hl : L ≤ 1000000000000) (h : IntRow w g (marked L)) :
    Calls Tryd.prog 44 #[.slice (some ⟨g, 0, none⟩) L cap, .int .i64 1] w fun e w' => e = .returned (.int .i64 ((L : Int) + 1)) ∧ w = w' := by
  have hl2 : (L : Int) + 1 ≤ 9223372036854775807 := by omega
  have H : Hid (∀ j, j < L → w.cell? ⟨g, j, none⟩ = some (.int .i64 ((j : Int) + 1))) := by
    refine Lib.hid fun j hj => ?_
    rw [(h j (by simpa [marked] using hj)).1]
    simp [marked, List.getD_eq_getElem?_getD, hj]
  clear hl h
  go_enter Tryd.func44, Tryd.ntmps44
  go_wp2_with fail
  go_loop [1, 5] (fun m i => ∃ k : Nat, k ≤ L ∧ i = .int .i64 k ∧ m = .int .i64 ((k : Int) + 1)) (fun _ i => L - (intOf i).toNat)
  case atStart => exact ⟨0, Nat.zero_le _, rfl, by simp⟩
  case round =>
    obtain ⟨k, hk, rfl, rfl⟩ := hrel
    by_cases hlt : k < L
    · have q := H.out k hlt
      go_wp2
      exact ⟨⟨k + 1, hlt, by go_num, by go_num⟩, by simp [intOf]; omega⟩
    · obtain rfl : k = L := by omega
      go_wp2
      go_ret
      exact ⟨rfl, rfl⟩
end Go.Proofs.YtgobjobppajkbaaDoor
