/-
  'WordOfResidue' of both, 'WordOf' of both.
-/
import Derived.Test.YtbepnhgekbcbjaaDoorWoOf
import Derived.Test.YtbepnhgekbcbjaaDoorLen
import Derived.Test.YtbepnhgekbcbjaaDoorBig
import Derived.Test.YtbepnhgekbcbjaaDoorTouch
import Derived.WalkLawsBesides
import Derived.RegionTactic
namespace Go.Proofs.YtbepnhgekbcbjaaDoor
open Go.RowKit
set_option linter.unusedVariables false

theorem signOf_w (v : Int) (w : World) :
    Calls Tryd.prog 40 #[.int .i64 v] w fun e w' => e = .returned (.int .u8 ((par v).toNat : Int)) ∧ w = w' := by
  cases ho : oddB v
  · rw [par_even ho]
    go_enter Tryd.func40, Tryd.ntmps40
    go_wp2_with (go_at_call 29; refine (isOdd_any _ _).mono ?_; rintro e w' ⟨rfl, rfl⟩)
    go_ret
    exact ⟨rfl, rfl⟩
  · rw [par_odd ho]
    go_enter Tryd.func40, Tryd.ntmps40
    go_wp2_with (go_at_call 29; refine (isOdd_any _ _).mono ?_; rintro e w' ⟨rfl, rfl⟩)
    go_ret
    exact ⟨rfl, rfl⟩

/-- A walk in a block: its map and where it stands. -/
structure WalkAt (W : World) (b : Nat) (t p v : Int) : Prop where
  c0 : W.cell? ⟨b, 0, none⟩ = some (.int .i64 t)
  c1 : W.cell? ⟨b, 1, none⟩ = some (.int .i64 p)
  c2 : W.cell? ⟨b, 2, none⟩ = some (.int .i64 v)
  f0 : W.frozen? ⟨b, 0, none⟩ = false
  f1 : W.frozen? ⟨b, 1, none⟩ = false
  f2 : W.frozen? ⟨b, 2, none⟩ = false
  lt : b < W.heap.size
theorem WalkAt.below {W W' : World} {b B : Nat} {t p v : Int} (h : WalkAt W b t p v) (hb : Below B W W') (hB : b < B) : WalkAt W' b t p v :=
  ⟨(hb.cell (p := ⟨b, 0, none⟩) hB).trans h.c0, (hb.cell (p := ⟨b, 1, none⟩) hB).trans h.c1, (hb.cell (p := ⟨b, 2, none⟩) hB).trans h.c2,
    (hb.frozen (p := ⟨b, 0, none⟩) hB).trans h.f0, (hb.frozen (p := ⟨b, 1, none⟩) hB).trans h.f1, (hb.frozen (p := ⟨b, 2, none⟩) hB).trans h.f2, Nat.lt_of_lt_of_le h.lt hb.size⟩

theorem touch3 {w w1 : World} {b : Nat} {x y z : Value} (h : Below w.heap.size w w1) : Touch b (b + 1) w (((w1.setCell ⟨b, 0, none⟩ x).setCell ⟨b, 1, none⟩ y).setCell ⟨b, 2, none⟩ z) := by
  have h0 : Touch b (b + 1) w w1 := Touch.of_below h
  have h1 : Touch b (b + 1) w (w1.setCell ⟨b, 0, none⟩ x) := h0.setCell (p := ⟨b, 0, none⟩) (Nat.le_refl _) (Nat.lt_succ_self _) x
  have h2 : Touch b (b + 1) w ((w1.setCell ⟨b, 0, none⟩ x).setCell ⟨b, 1, none⟩ y) := h1.setCell (p := ⟨b, 1, none⟩) (Nat.le_refl _) (Nat.lt_succ_self _) y
  exact h2.setCell (p := ⟨b, 2, none⟩) (Nat.le_refl _) (Nat.lt_succ_self _) z
/-- Are there a map, a length and a residue? -/
def askR (t p r k : Int) : Bool := goodB t p && inB k 0 15 && decide (0 ≤ r ∧ r < 2 ^ k.toNat)
theorem askR_iff {t p r k : Int} : askR t p r k = true ↔ goodB t p = true ∧ (0 ≤ k ∧ k ≤ 15) ∧ 0 ≤ r ∧ r < 2 ^ k.toNat := by
  simp only [askR, inB, Bool.and_eq_true, decide_eq_true_eq, and_assoc]
/-- What WordOfResidue comes to. -/
def wor (t p r k : Int) : ByteArray := if askR t p r k = true then wby (wrd t p r k.toNat) else wby []
theorem ret_sb {x y : ByteArray} {a b : Bool} (h : x = y) (h' : a = b) : Ending.returned (.tuple #[.string x, .bool a]) = .returned (.tuple #[.string y, .bool b]) := by rw [h, h']

end Go.Proofs.YtbepnhgekbcbjaaDoor
