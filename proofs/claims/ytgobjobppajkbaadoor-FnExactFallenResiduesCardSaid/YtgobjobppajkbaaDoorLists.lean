/-
  THE SAME AT WHATEVER SLICE OF THE CALL's OWN: nil, empty or not.
-/
import Derived.Test.YtgobjobppajkbaaDoorSlices
namespace Go.Proofs.YtgobjobppajkbaaDoor
open Go.RowKit
set_option linter.unusedVariables false

/-- A slice that reads as xs. -/
def IntsIn (w : World) (v : Value) (xs : List Int) : Prop :=
  ∃ a cap, v = .slice a xs.length cap ∧ (xs ≠ [] → ∃ g, a = some ⟨g, 0, none⟩ ∧ g < w.heap.size ∧ IntRow w g xs)
theorem IntsAt.isIn {w : World} {B : Nat} {v : Value} {xs : List Int} (h : IntsAt w B v xs) : IntsIn w v xs := by
  rcases h.cases with ⟨rfl, rfl⟩ | ⟨g, cap, rfl, _, hg, _, hr⟩
  · exact ⟨none, 0, rfl, fun h => (h rfl).elim⟩
  · exact ⟨_, cap, rfl, fun _ => ⟨g, rfl, hg, hr⟩⟩
theorem IntsIn.kept {w w' : World} {v : Value} {xs : List Int} (h : IntsIn w v xs) (hb : Below w.heap.size w w') : IntsIn w' v xs := by
  obtain ⟨a, cap, rfl, hx⟩ := h
  exact ⟨a, cap, rfl, fun hn => by obtain ⟨g, rfl, hg, hr⟩ := hx hn; exact ⟨g, rfl, Nat.lt_of_lt_of_le hg hb.size, hr.kept hg hb⟩⟩
theorem IntsIn.grown {w w' : World} {v : Value} {xs : List Int} {row : Option Nat} (h : IntsIn w v xs) (hg : w.grownBy w' row) (hne : v.ownBlock = none ∨ v.ownBlock ≠ row) : IntsIn w' v xs := by
  obtain ⟨a, cap, rfl, hx⟩ := h
  refine ⟨a, cap, rfl, fun hn => ?_⟩
  obtain ⟨g, rfl, hlt, hr⟩ := hx hn
  have hne' : some g ≠ row := by
    rcases hne with h | h
    · simp [Value.ownBlock] at h
    · simpa [Value.ownBlock] using h
  have hh := hg.block g hlt hne'
  exact ⟨g, rfl, Nat.lt_of_lt_of_le hlt hg.size, fun j hj => ⟨(World.cell?_of_block (a := ⟨g, j, none⟩) hh).trans (hr j hj).1, (World.frozen?_of_block (a := ⟨g, j, none⟩) hh).trans (hr j hj).2⟩⟩

theorem eqIntS_empty (a a' : Option Addr) (cap cap' : Nat) (w : World) :
    Calls Tryd.prog 42 #[.slice a 0 cap, .slice a' 0 cap'] w fun e w' => e = .returned (.bool true) ∧ Below w.heap.size w w' := by
  go_enter Tryd.func42, Tryd.ntmps42
  go_wp2_with fail
  refine wp_loop_rounds 1 ?_
  rw [rounds_succ]
  go_wp2
  go_ret
  exact ⟨rfl, Below.refl _ _⟩
theorem markIntS_empty (a : Option Addr) (cap : Nat) (w : World) :
    Calls Tryd.prog 43 #[.slice a 0 cap, .int .i64 1] w fun e w' => e = .returned (.int .i64 1) ∧ w = w' := by
  go_enter Tryd.func43, Tryd.ntmps43
  go_wp2_with fail
  refine wp_loop_rounds 1 ?_
  rw [rounds_succ]
  go_wp2
  go_ret
  exact ⟨rfl, rfl⟩
theorem heldIntS_empty (a : Option Addr) (cap : Nat) (w : World) :
    Calls Tryd.prog 44 #[.slice a 0 cap, .int .i64 1] w fun e w' => e = .returned (.int .i64 1) ∧ w = w' := by
  go_enter Tryd.func44, Tryd.ntmps44
  go_wp2_with fail
  refine wp_loop_rounds 1 ?_
  rw [rounds_succ]
  go_wp2
  go_ret
  exact ⟨rfl, rfl⟩

theorem eqIntS_any (xs : List Int) (v v' : Value) (w : World) (hl : xs.length ≤ 1000000000000) (h : IntsIn w v xs) (h' : IntsIn w v' xs) :
    Calls Tryd.prog 42 #[v, v'] w fun e w' => e = .returned (.bool true) ∧ Below w.heap.size w w' := by
  obtain ⟨a, cap, rfl, hx⟩ := h
  obtain ⟨a', cap', rfl, hx'⟩ := h'
  by_cases hn : xs = []
  · subst hn; exact eqIntS_empty a a' cap cap' w
  · obtain ⟨g, rfl, hg, hr⟩ := hx hn
    obtain ⟨g', rfl, hg', hr'⟩ := hx' hn
    exact eqIntS_row xs g cap g' cap' w hg hg' (by unfold maxLen; omega) hr hr'
theorem markIntS_any (xs : List Int) (v : Value) (w : World) (hl : xs.length ≤ 1000000000000) (h : IntsIn w v xs) :
    Calls Tryd.prog 43 #[v, .int .i64 1] w fun e w' => e = .returned (.int .i64 ((xs.length : Int) + 1)) ∧ w.grownBy w' v.ownBlock ∧ IntsIn w' v (marked xs.length) := by
  obtain ⟨a, cap, rfl, hx⟩ := h
  by_cases hn : xs = []
  · subst hn
    refine (markIntS_empty a cap w).mono ?_
    rintro e w' ⟨rfl, rfl⟩
    exact ⟨rfl, ⟨rfl, rfl, rfl, Nat.le_refl _, fun _ _ _ => rfl⟩, a, cap, rfl, fun h => (h rfl).elim⟩
  · obtain ⟨g, rfl, hg, hr⟩ := hx hn
    refine (markIntS_row xs g cap w hg hl hr).mono ?_
    rintro e w' ⟨rfl, ht, hr'⟩
    refine ⟨rfl, ⟨ht.os, ht.tape, ht.output, ht.size, fun k hk hne => ht.block k hk ?_⟩, _, cap, by simp [marked], fun _ => ⟨g, rfl, Nat.lt_of_lt_of_le hg ht.size, hr'⟩⟩
    have : k ≠ g := fun e => hne (by rw [e]; rfl)
    omega
theorem heldIntS_any (L : Nat) (v : Value) (w : World) (hl : L ≤ 1000000000000) (h : IntsIn w v (marked L)) :
    Calls Tryd.prog 44 #[v, .int .i64 1] w fun e w' => e = .returned (.int .i64 ((L : Int) + 1)) ∧ w = w' := by
  obtain ⟨a, cap, rfl, hx⟩ := h
  have hlen : (marked L).length = L := by simp [marked]
  by_cases hn : L = 0
  · subst hn; exact heldIntS_empty a cap w
  · obtain ⟨g, rfl, hg, hr⟩ := hx (fun e => hn (by rw [← hlen, e]; rfl))
    rw [hlen]
    exact heldIntS_row L g cap w hg hl hr
end Go.Proofs.YtgobjobppajkbaaDoor
