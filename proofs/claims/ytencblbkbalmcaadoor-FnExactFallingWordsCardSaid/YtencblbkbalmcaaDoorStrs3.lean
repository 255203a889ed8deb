/-
  THE SAME AT WHATEVER SLICE OF STRINGS OF THE CALL's OWN: nil, empty or not.
-/
import Derived.Test.YtencblbkbalmcaaDoorStrs2
namespace Go.Proofs.YtencblbkbalmcaaDoor
open Go.RowKit
set_option linter.unusedVariables false

theorem eqStrS_empty (a a' : Option Addr) (cap cap' : Nat) (w : World) :
    Calls Tryd.prog 16 #[.slice a 0 cap, .slice a' 0 cap'] w fun e w' => e = .returned (.bool true) ∧ Below w.heap.size w w' := by
  go_enter Tryd.func16, Tryd.ntmps16
  go_wp2_with fail
  refine wp_loop_rounds 1 ?_
  rw [rounds_succ]
  go_wp2
  go_ret
  exact ⟨rfl, Below.refl _ _⟩
theorem markStrS_empty (a : Option Addr) (cap : Nat) (w : World) :
    Calls Tryd.prog 17 #[.slice a 0 cap, .int .i64 1] w fun e w' => e = .returned (.int .i64 1) ∧ w = w' := by
  go_enter Tryd.func17, Tryd.ntmps17
  go_wp2_with fail
  refine wp_loop_rounds 1 ?_
  rw [rounds_succ]
  go_wp2
  go_ret
  exact ⟨rfl, rfl⟩
theorem heldStrS_empty (a : Option Addr) (cap : Nat) (w : World) :
    Calls Tryd.prog 18 #[.slice a 0 cap, .int .i64 1] w fun e w' => e = .returned (.int .i64 1) ∧ w = w' := by
  go_enter Tryd.func18, Tryd.ntmps18
  go_wp2_with fail
  refine wp_loop_rounds 1 ?_
  rw [rounds_succ]
  go_wp2
  go_ret
  exact ⟨rfl, rfl⟩
theorem eqStrS_any (xs : List ByteArray) (v v' : Value) (w : World) (hl : xs.length ≤ 900) (h : StrsIn w v xs) (h' : StrsIn w v' xs) :
    Calls Tryd.prog 16 #[v, v'] w fun e w' => e = .returned (.bool true) ∧ Below w.heap.size w w' := by
  obtain ⟨a, cap, rfl, hx⟩ := h
  obtain ⟨a', cap', rfl, hx'⟩ := h'
  by_cases hn : xs = []
  · subst hn; exact eqStrS_empty a a' cap cap' w
  · obtain ⟨g, rfl, hg, hr⟩ := hx hn
    obtain ⟨g', rfl, hg', hr'⟩ := hx' hn
    exact eqStrS_row xs g cap g' cap' w hg hg' hl hr hr'
theorem markStrS_any (xs : List ByteArray) (v : Value) (w : World) (hl : xs.length ≤ 900) (h : StrsIn w v xs) :
    Calls Tryd.prog 17 #[v, .int .i64 1] w fun e w' => e = .returned (.int .i64 ((xs.length : Int) + 1)) ∧ w.grownBy w' v.ownBlock ∧ StrsIn w' v (markedS xs.length) := by
  obtain ⟨a, cap, rfl, hx⟩ := h
  by_cases hn : xs = []
  · subst hn
    refine (markStrS_empty a cap w).mono ?_
    rintro e w' ⟨rfl, rfl⟩
    exact ⟨rfl, ⟨rfl, rfl, rfl, Nat.le_refl _, fun _ _ _ => rfl⟩, a, cap, rfl, fun h => (h rfl).elim⟩
  · obtain ⟨g, rfl, hg, hr⟩ := hx hn
    refine (markStrS_row xs g cap w hg hl hr).mono ?_
    rintro e w' ⟨rfl, ht, hr'⟩
    refine ⟨rfl, ⟨ht.os, ht.tape, ht.output, ht.size, fun k hk hne => ht.block k hk ?_⟩, _, cap, by simp [markedS], fun _ => ⟨g, rfl, Nat.lt_of_lt_of_le hg ht.size, hr'⟩⟩
    have : k ≠ g := fun e => hne (by rw [e]; rfl)
    omega
theorem heldStrS_any (L : Nat) (v : Value) (w : World) (hl : L ≤ 900) (h : StrsIn w v (markedS L)) :
    Calls Tryd.prog 18 #[v, .int .i64 1] w fun e w' => e = .returned (.int .i64 ((L : Int) + 1)) ∧ Below w.heap.size w w' := by
  obtain ⟨a, cap, rfl, hx⟩ := h
  have hlen : (markedS L).length = L := by simp [markedS]
  by_cases hn : L = 0
  · subst hn
    refine (heldStrS_empty a cap w).mono ?_
    rintro e w' ⟨rfl, rfl⟩
    exact ⟨rfl, Below.refl _ _⟩
  · obtain ⟨g, rfl, hg, hr⟩ := hx (fun e => hn (by rw [← hlen, e]; rfl))
    rw [hlen]
    exact heldStrS_row L g cap w hg hl hr
end Go.Proofs.YtencblbkbalmcaaDoor
