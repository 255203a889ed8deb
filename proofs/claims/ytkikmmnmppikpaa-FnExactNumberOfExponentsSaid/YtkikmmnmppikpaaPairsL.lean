/-
  'reRecords' of the model; 'eqIntSS', 'markIntSS', 'heldIntSS' of the laws at rows of pairs.
-/
import Derived.Test.YtkikmmnmppikpaaPairs
import Derived.Deep.RegionWith
namespace Go.Proofs.Ytkikmmnmppikpaa
open Go.RowKit
set_option linter.unusedVariables false

theorem PairAt.row {w : World} {b : Nat} {r : Int × Int} (h : PairAt w b r) : IntRow w b [r.1, r.2] := by
  intro j hj
  match j, hj with
  | 0, _ => exact ⟨h.1, h.2.2.1⟩
  | 1, _ => exact ⟨h.2.1, h.2.2.2⟩
theorem eqIntS_pair (b b' : Nat) (r : Int × Int) (w0 w : World) (hb0 : Below w0.heap.size w0 w) (h : PairAt w0 b r) (h' : PairAt w0 b' r) (hl : b < w0.heap.size) (hl' : b' < w0.heap.size) :
    Calls Try.prog 52 #[slP b, slP b'] w fun e w' => e = .returned (.bool true) ∧ Below w0.heap.size w0 w' := by
  have h2 := (h.of (hb0.block b hl)).row
  have h2' := (h'.of (hb0.block b' hl')).row
  have := eqIntS_row [r.1, r.2] b 2 b' 2 w (Nat.lt_of_lt_of_le hl hb0.size) (Nat.lt_of_lt_of_le hl' hb0.size) (by simp [maxLen]) h2 h2'
  exact this.mono fun e w' ⟨h1, h3⟩ => ⟨h1, hb0.trans (h3.mono hb0.size)⟩

set_option maxHeartbeats 1000000 in
theorem markIntS_pair (b : Nat) (r : Int × Int) (k : Int) (w : World) (h : PairAt w b r) (hk0 : 0 ≤ k) (hk : k ≤ 1000000) (hb : b < w.heap.size) :
    Calls Try.prog 73 #[slP b, .int .i64 k] w fun e w' => e = .returned (.int .i64 (k + 2)) ∧ Touch b (b + 1) w w' ∧ PairAt w' b (k, k + 1) := by
  obtain ⟨c0, c1, f0, f1⟩ := h
  unfold slP
  go_enter Try.func73, Try.ntmps73
  go_wp2_with fail
  refine wp_loop_rounds 3 ?_
  rw [rounds_succ]
  go_wp2_with fail
  rw [rounds_succ]
  go_wp2_with fail
  rw [rounds_succ]
  go_wp2_with fail
  go_ret
  refine ⟨by first | rfl | (rw [show k + 1 + 1 = k + 2 by omega]; rfl), ((Touch.refl b (b + 1) w).setCell (p := ⟨b, 0, none⟩) (Nat.le_refl _) (Nat.lt_succ_self _) _).setCell (p := ⟨b, 1, none⟩) (Nat.le_refl _) (Nat.lt_succ_self _) _, ?_, ?_, ?_, ?_⟩
  all_goals simp [go_sem, c0, c1, f0, f1]
set_option maxHeartbeats 1000000 in
theorem heldIntS_pair (b : Nat) (k : Int) (w : World) (h : PairAt w b (k, k + 1)) (hk0 : 0 ≤ k) (hk : k ≤ 1000000) (hb : b < w.heap.size) :
    Calls Try.prog 74 #[slP b, .int .i64 k] w fun e w' => e = .returned (.int .i64 (k + 2)) ∧ w = w' := by
  obtain ⟨c0, c1, f0, f1⟩ := h
  dsimp only at c0 c1
  unfold slP
  go_enter Try.func74, Try.ntmps74
  go_wp2_with fail
  refine wp_loop_rounds 3 ?_
  rw [rounds_succ]
  go_wp2_with fail
  rw [rounds_succ]
  go_wp2_with fail
  rw [rounds_succ]
  go_wp2_with fail
  go_ret
  exact ⟨by first | rfl | (rw [show k + 1 + 1 = k + 2 by omega]; rfl), rfl⟩
end Go.Proofs.Ytkikmmnmppikpaa
