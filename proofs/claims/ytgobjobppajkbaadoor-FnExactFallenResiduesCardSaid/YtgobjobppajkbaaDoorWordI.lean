/-
  'WordOfResidue' of both, 'WordOf' of both.
-/
import Derived.Test.YtgobjobppajkbaaDoorWoOf
import Derived.Test.YtgobjobppajkbaaDoorLen
import Derived.Test.YtgobjobppajkbaaDoorBig
import Derived.Test.YtgobjobppajkbaaDoorTouch
import Derived.WalkLawsBesides
import Derived.RegionTactic
namespace Go.Proofs.YtgobjobppajkbaaDoor
open Go.RowKit
set_option linter.unusedVariables false

theorem signOf_w (v : Int) (w : World) :
    Calls Tryd.prog 130 #[.int .i64 v] w fun e w' => e = .returned (.int .u8 ((par v).toNat : Int)) ∧ w = w' := by
  cases ho : oddB v
  · rw [par_even ho]
    go_enter Tryd.func130, Tryd.ntmps130
    go_wp2_with (go_at_call 76; refine (isOdd_any _ _).mono ?_; rintro e w' ⟨rfl, rfl⟩)
    go_ret
    exact ⟨rfl, rfl⟩
  · rw [par_odd ho]
    go_enter Tryd.func130, Tryd.ntmps130
    go_wp2_with (go_at_call 76; refine (isOdd_any _ _).mono ?_; rintro e w' ⟨rfl, rfl⟩)
    go_ret
    exact ⟨rfl, rfl⟩

/-- A walk in a block: its map and where it stands. -/
structure WalkAt (W : World) (b : Nat) (t p v : Int) : Prop where
  c0 : W.cell? ⟨b, 0, none⟩ = some (.int .i64 t)
  c1 : W.cell? ⟨b, 1, none⟩ = some (.int .i64 p)
  c2 : W.cell? ⟨b, 2, none⟩ = some (.int .i64 v)
  f0 : W.frozen? ⟨b, 0, none⟩ = false
  f1 : W.frozen? ⟨b, 1, none⟩ = false
  f2 : W.frozen? ⟨b, 2, none⟩ = false
  lt : b < W.heap.size
theorem WalkAt.below {W W' : World} {b B : Nat} {t p v : Int} (h : WalkAt W b t p v) (hb : Below B W W') (hB : b < B) : WalkAt W' b t p v :=
  ⟨(hb.cell (p := ⟨b, 0, none⟩) hB).trans h.c0, (hb.cell (p := ⟨b, 1, none⟩) hB).trans h.c1, (hb.cell (p := ⟨b, 2, none⟩) hB).trans h.c2,
    (hb.frozen (p := ⟨b, 0, none⟩) hB).trans h.f0, (hb.frozen (p := ⟨b, 1, none⟩) hB).trans h.f1, (hb.frozen (p := ⟨b, 2, none⟩) hB).trans h.f2, Nat.lt_of_lt_of_le h.lt hb.size⟩

theorem touch3 {w w1 : World} {b : Nat} {x y z : Value} (h : Below w.heap.size w w1) : Touch b (b + 1) w (((w1.setCell ⟨b, 0, none⟩ x).setCell ⟨b, 1, none⟩ y).setCell ⟨b, 2, none⟩ z) := by
  have h0 : Touch b (b + 1) w w1 := Touch.of_below h
  have h1 : Touch b (b + 1) w (w1.setCell ⟨b, 0, none⟩ x) := h0.setCell (p := ⟨b, 0, none⟩) (Nat.le_refl _) (Nat.lt_succ_self _) x
  have h2 : Touch b (b + 1) w ((w1.setCell ⟨b, 0, none⟩ x).setCell ⟨b, 1, none⟩ y) := h1.setCell (p := ⟨b, 1, none⟩) (Nat.le_refl _) (Nat.lt_succ_self _) y
  exact h2.setCell (p := ⟨b, 2, none⟩) (Nat.le_refl _) (Nat.lt_succ_self _) z
theorem signsFrom_next (t p v : Int) (b : Nat) (w : World) (hg : goodB t p = true) (n1 : -2000000000000000 ≤ v) (n2 : v ≤ 2000000000000000) (h : WalkAt w b t p v) :
    Calls Tryd.prog 129 #[.pointer (some ⟨b, 0, none⟩)] w fun e w' => e = .returned (.int .u8 ((par v).toNat : Int)) ∧ WalkAt w' b t p (sx t p v) ∧ Touch b (b + 1) w w' := by
  have HS := Lib.hid (fun w => shortStep_big t p v w hg n1 n2)
  have HW := Lib.hid h
  obtain ⟨c0, c1, c2, f0, f1, f2, lt⟩ := h
  clear hg
  go_enter Tryd.func129, Tryd.ntmps129
  go_wp2_with (go_at_call 130; refine (signOf_w _ _).mono ?_; rintro e w' ⟨rfl, rfl⟩)
  refine (HS.out _).mono ?_
  rintro e w1 ⟨rfl, hb1⟩
  obtain ⟨d0, d1, d2, j0, j1, j2, lt1⟩ := HW.out.below hb1 lt
  have HB := Lib.hid hb1
  clear hb1 c0 c1 c2 f0 f1 f2
  go_wp2_with fail
  go_ret
  refine ⟨rfl, ⟨?_, ?_, ?_, ?_, ?_, ?_, by simpa using lt1⟩, touch3 HB.out⟩ <;> go_simp

theorem signsFrom_any (t p v : Int) (w : World) :
    Calls Tryd.prog 108 #[.agg #[.int .i64 t, .int .i64 p], .int .i64 v] w fun e w' => e = .returned (.func (.func 129) #[] #[.pointer (some ⟨w.heap.size + 1, 0, none⟩)]) ∧ WalkAt w' (w.heap.size + 1) t p v ∧ Below w.heap.size w w' := by
  go_enter Tryd.func108, Tryd.ntmps108
  go_wp2_with fail
  go_ret
  refine ⟨rfl, ⟨?_, ?_, ?_, ?_, ?_, ?_, by simp⟩, ((Below.refl _ _).alloc (Nat.le_refl _) _).alloc (by simp) _⟩ <;> go_simp

/-- Are there a map, a length and a residue? -/
def askR (t p r k : Int) : Bool := goodB t p && inB k 0 15 && decide (0 ≤ r ∧ r < 2 ^ k.toNat)
theorem askR_iff {t p r k : Int} : askR t p r k = true ↔ goodB t p = true ∧ (0 ≤ k ∧ k ≤ 15) ∧ 0 ≤ r ∧ r < 2 ^ k.toNat := by
  simp only [askR, inB, Bool.and_eq_true, decide_eq_true_eq, and_assoc]
/-- What WordOfResidue comes to. -/
def wor (t p r k : Int) : ByteArray := if askR t p r k = true then wby (wrd t p r k.toNat) else wby []
theorem ret_sb {x y : ByteArray} {a b : Bool} (h : x = y) (h' : a = b) : Ending.returned (.tuple #[.string x, .bool a]) = .returned (.tuple #[.string y, .bool b]) := by rw [h, h']

end Go.Proofs.YtgobjobppajkbaaDoor
