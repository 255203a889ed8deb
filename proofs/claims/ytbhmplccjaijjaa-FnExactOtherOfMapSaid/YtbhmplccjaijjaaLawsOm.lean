/-
  THE WALKS OF THE LAWS 'OtherOfMap'.
-/
import Derived.Test.YtbhmplccjaijjaaOfM
import Derived.WalkSmall
namespace Go.Proofs.Ytbhmplccjaijjaa
open Go.RowKit
set_option linter.unusedVariables false

/-- A box that holds a map. -/
def Bm2 (w : World) (b : Nat) (x y : Value) : Prop := w.cell? ⟨b, 0, none⟩ = some x ∧ w.cell? ⟨b, 1, none⟩ = some y ∧ b < w.heap.size
theorem Bm2.of {w w' : World} {b : Nat} {x y : Value} (h : Bm2 w b x y) (hs : w.heap.size ≤ w'.heap.size) (he : w'.heap[b]? = w.heap[b]?) : Bm2 w' b x y :=
  ⟨(World.cell?_of_block (a := ⟨b, 0, none⟩) he).trans h.1, (World.cell?_of_block (a := ⟨b, 1, none⟩) he).trans h.2.1, Nat.lt_of_lt_of_le h.2.2 hs⟩
theorem Bm2.kept {w w' : World} {b : Nat} {x y : Value} (h : Bm2 w b x y) (hb : Below w.heap.size w w') : Bm2 w' b x y := h.of hb.size (hb.block b h.2.2)
theorem Bm2.touch {w w' : World} {lo hi b : Nat} {x y : Value} (h : Bm2 w b x y) (ht : Touch lo hi w w') (hd : b < lo ∨ hi ≤ b) : Bm2 w' b x y := h.of ht.size (ht.block b h.2.2 hd)
theorem Bm2.new (w : World) (x y : Value) (T : TypeId) : Bm2 (w.alloc (.cells #[x, y] T)) w.heap.size x y := ⟨by go_simp, by go_simp, by simp⟩

set_option maxHeartbeats 8000000 in
theorem fnExactOtherOfMap_law (t p : Int) (w : World) :
    Calls Try.prog 11 #[.agg #[.int .i64 t, .int .i64 p]] w fun e w' => e = .returned (.bool true) ∧ Below w.heap.size w w' := by
  have HS := Lib.hid (fun W => sOtherOfMap t p W)
  have HI := Lib.hid (fun W => iOtherOfMap t p W)
  have HTO := Lib.hid (fun W => toMap_any t p W)
  have HLX := Lib.hid (omOf_len t p)
  generalize omOf t p = xs at HS HI HLX
  generalize goodB t p = ok at HS HI
  have M := Lib.hid (Bm2.new w (.int .i64 t) (.int .i64 p) 53)
  have HB := Lib.hid (below_new w (.cells #[.int .i64 t, .int .i64 p] 53))
  go_enter Try.func11, Try.ntmps11
  go_wp2_with fail
  refine (HTO.out _).mono ?_
  rintro e w2 ⟨rfl, hb2⟩
  replace M := Lib.hid (M.out.kept hb2)
  replace HB := Lib.hid (HB.out.trans (hb2.mono HB.out.size))
  clear hb2
  go_wp2_with fail
  refine (HS.out _).mono ?_
  rintro e w3 ⟨u3, rfl, m3, hb3⟩
  replace M := Lib.hid (M.out.kept hb3)
  replace HB := Lib.hid (HB.out.trans (hb3.mono HB.out.size))
  clear hb3
  have M0 := Lib.hid m3
  obtain ⟨_, a3, c3, rfl, _⟩ := m3
  have hz : w.heap.size < w3.heap.size := M.out.2.2
  have B0 := Lib.hid (Bo.new w3 (.slice a3 xs.length c3) 29)
  obtain ⟨Mp0, Mp1, Mp2⟩ := M.out
  have n1e1 : ¬ w3.heap.size = w.heap.size := by omega
  have n1e2 : ¬ w.heap.size = w3.heap.size := by omega
  replace M := Lib.hid (M.out.kept (below_new w3 (.cells #[.slice a3 xs.length c3] 29)))
  replace M0 := Lib.hid (M0.out.kept (below_new w3 (.cells #[.slice a3 xs.length c3] 29)))
  replace HB := Lib.hid (HB.out.trans ((below_new w3 (.cells #[.slice a3 xs.length c3] 29)).mono HB.out.size))
  go_wp2_with fail
  refine (HTO.out _).mono ?_
  rintro e w4 ⟨rfl, hb4⟩
  clear Mp0 Mp1 Mp2
  clear n1e1 n1e2
  replace M := Lib.hid (M.out.kept hb4)
  replace B0 := Lib.hid (B0.out.kept hb4)
  replace M0 := Lib.hid (M0.out.kept hb4)
  replace HB := Lib.hid (HB.out.trans (hb4.mono HB.out.size))
  clear hb4
  go_wp2_with fail
  refine (HI.out _).mono ?_
  rintro e w5 ⟨u5, rfl, m5, hb5⟩
  have hz4 := B0.out.2
  replace M := Lib.hid (M.out.kept hb5)
  replace B0 := Lib.hid (B0.out.kept hb5)
  replace M0 := Lib.hid (M0.out.kept hb5)
  replace HB := Lib.hid (HB.out.trans (hb5.mono HB.out.size))
  clear hb5
  have M1 := Lib.hid m5
  obtain ⟨_, a7, c7, rfl, _⟩ := m5
  have B1 := Lib.hid (Bo.new w5 (.slice a7 xs.length c7) 29)
  obtain ⟨B0p0, B0p2⟩ := B0.out
  have n2e1 : ¬ w5.heap.size = w3.heap.size := by omega
  have n2e2 : ¬ w3.heap.size = w5.heap.size := by omega
  replace M := Lib.hid (M.out.kept (below_new w5 (.cells #[.slice a7 xs.length c7] 29)))
  replace B0 := Lib.hid (B0.out.kept (below_new w5 (.cells #[.slice a7 xs.length c7] 29)))
  replace M0 := Lib.hid (M0.out.kept (below_new w5 (.cells #[.slice a7 xs.length c7] 29)))
  replace M1 := Lib.hid (M1.out.kept (below_new w5 (.cells #[.slice a7 xs.length c7] 29)))
  replace HB := Lib.hid (HB.out.trans ((below_new w5 (.cells #[.slice a7 xs.length c7] 29)).mono HB.out.size))
  go_wp2_with fail
  refine (eqOther_any xs _ _ _ HLX.out M1.out.isIn M0.out.isIn).mono ?_
  rintro e w6 ⟨rfl, hb6⟩
  clear B0p0 B0p2
  clear n2e1 n2e2
  replace M := Lib.hid (M.out.kept hb6)
  replace B0 := Lib.hid (B0.out.kept hb6)
  replace B1 := Lib.hid (B1.out.kept hb6)
  replace M0 := Lib.hid (M0.out.kept hb6)
  replace M1 := Lib.hid (M1.out.kept hb6)
  replace HB := Lib.hid (HB.out.trans (hb6.mono HB.out.size))
  clear hb6
  obtain ⟨B1p0, B1p2⟩ := B1.out
  go_wp2_with fail
  refine (markOther_any xs _ _ _ _ HLX.out M1.out).mono ?_
  rintro e w10 ⟨rfl, ht, mk⟩
  replace M := Lib.hid (M.out.touch ht (.inl (by omega)))
  replace B0 := Lib.hid (B0.out.touch ht (.inl (by omega)))
  replace B1 := Lib.hid (B1.out.touch ht (.inr (Nat.le_refl _)))
  replace M0 := Lib.hid (M0.out.touch ht (.inl (by omega)))
  replace M1 := Lib.hid mk
  replace HB := Lib.hid (HB.out.trans (ht.below (by omega) HB.out.size))
  clear ht mk
  clear B1p0 B1p2
  obtain ⟨B1p0, B1p2⟩ := B1.out
  have hl1 : (xs.length : Int) ≤ 1048576 := by have := HLX.out; omega
  have hd : decide (1 + 3 * (xs.length : Int) < 0) = false := by simp; omega
  go_wp2_with fail
  refine (heldOther_any xs.length _ _ _ _ HLX.out M1.out).mono ?_
  rintro e w11 ⟨rfl, hb11⟩
  clear B1p0 B1p2
  replace M := Lib.hid (M.out.kept hb11)
  replace B0 := Lib.hid (B0.out.kept hb11)
  replace B1 := Lib.hid (B1.out.kept hb11)
  replace M0 := Lib.hid (M0.out.kept hb11)
  replace M1 := Lib.hid (M1.out.kept hb11)
  replace HB := Lib.hid (HB.out.trans (hb11.mono HB.out.size))
  clear hb11
  obtain ⟨Mp0, Mp1, Mp2⟩ := M.out
  go_wp2_with fail
  refine (HTO.out _).mono ?_
  rintro e w12 ⟨rfl, hb12⟩
  clear Mp0 Mp1 Mp2
  replace M := Lib.hid (M.out.kept hb12)
  replace B0 := Lib.hid (B0.out.kept hb12)
  replace B1 := Lib.hid (B1.out.kept hb12)
  replace M0 := Lib.hid (M0.out.kept hb12)
  replace M1 := Lib.hid (M1.out.kept hb12)
  replace HB := Lib.hid (HB.out.trans (hb12.mono HB.out.size))
  clear hb12
  go_wp2_with fail
  refine (HI.out _).mono ?_
  rintro e w13 ⟨u13, rfl, m13, hb13⟩
  replace M := Lib.hid (M.out.kept hb13)
  replace B0 := Lib.hid (B0.out.kept hb13)
  replace B1 := Lib.hid (B1.out.kept hb13)
  replace M0 := Lib.hid (M0.out.kept hb13)
  replace M1 := Lib.hid (M1.out.kept hb13)
  replace HB := Lib.hid (HB.out.trans (hb13.mono HB.out.size))
  clear hb13
  have M2 := Lib.hid m13
  obtain ⟨_, a9, c9, rfl, _⟩ := m13
  have hzz : w5.heap.size < w13.heap.size := B1.out.2
  obtain ⟨B0p0, B0p2⟩ := B0.out
  obtain ⟨B1p0, B1p2⟩ := B1.out
  have n3e1 : ¬ w13.heap.size = w3.heap.size := by omega
  have n3e2 : ¬ w3.heap.size = w13.heap.size := by omega
  have n4e1 : ¬ w13.heap.size = w5.heap.size := by omega
  have n4e2 : ¬ w5.heap.size = w13.heap.size := by omega
  replace B1 := Lib.hid (B1.out.kept (below_new w13 (.cells #[.slice a9 xs.length c9] 29)))
  replace M0 := Lib.hid (M0.out.kept (below_new w13 (.cells #[.slice a9 xs.length c9] 29)))
  replace M1 := Lib.hid (M1.out.kept (below_new w13 (.cells #[.slice a9 xs.length c9] 29)))
  replace M2 := Lib.hid (M2.out.kept (below_new w13 (.cells #[.slice a9 xs.length c9] 29)))
  replace HB := Lib.hid (HB.out.trans ((below_new w13 (.cells #[.slice a9 xs.length c9] 29)).mono HB.out.size))
  go_wp2_with fail
  refine (eqOther_any xs _ _ _ HLX.out M2.out.isIn M0.out.isIn).mono ?_
  rintro e w14 ⟨rfl, hb14⟩
  clear B0p0 B0p2
  clear B1p0 B1p2
  clear n3e1 n3e2
  clear n4e1 n4e2
  replace B1 := Lib.hid (B1.out.kept hb14)
  replace M1 := Lib.hid (M1.out.kept hb14)
  replace HB := Lib.hid (HB.out.trans (hb14.mono HB.out.size))
  clear hb14
  obtain ⟨B1p0, B1p2⟩ := B1.out
  go_wp2_with fail
  refine (heldOther_any xs.length _ _ _ _ HLX.out M1.out).mono ?_
  rintro e w15 ⟨rfl, hb15⟩
  replace HB := Lib.hid (HB.out.trans (hb15.mono HB.out.size))
  clear hb15
  go_wp2_with fail
  go_ret
  exact ⟨rfl, HB.out⟩
end Go.Proofs.Ytbhmplccjaijjaa
