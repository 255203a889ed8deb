/-
  THE WALK OF THE LAW 'ParseOther' (gen_lawpo.py).
-/
import Derived.Test.YtgobjobppajkbaaDoorOpR
import Derived.Test.YtgobjobppajkbaaDoorToldO
namespace Go.Proofs.YtgobjobppajkbaaDoor
open Go.RowKit
set_option linter.unusedVariables false

theorem po_same (l : List UInt8) : opB l = oqB l ∧ ifO (opB l) (opL l) = mzO l ∧ (mzO l).length ≤ 1048576 := by
  obtain ⟨h1, h2⟩ := op_same l
  rw [h1]
  cases hq : oqB l with
  | false =>
    have e3 : mzO l = [] := by rw [mzO, hq]; rfl
    rw [e3]
    exact ⟨rfl, rfl, by simp⟩
  | true =>
    have k := h2 hq
    have e3 : mzO l = oqL l := by rw [mzO, if_pos hq]
    rw [e3, k]
    refine ⟨rfl, rfl, ?_⟩
    rw [oqB, Bool.and_eq_true, Bool.and_eq_true] at hq
    have := (omB_len hq.2.1).2
    omega

theorem law_longO (s : ByteArray) (hs : 1048576 < (s.size : Int)) (w : World) :
    Calls Tryd.prog 5 #[.string s] w fun e w' => e = .returned (.bool true) ∧ Below w.heap.size w w' := by
  go_enter Tryd.func5, Tryd.ntmps5
  go_wp2_with fail
  go_ret
  exact ⟨rfl, Below.refl _ _⟩

set_option maxRecDepth 100000 in
set_option maxHeartbeats 8000000 in
theorem fnExactParseOther_law (s : ByteArray) (w : World) (hw : Set3 w) :
    Calls Tryd.prog 5 #[.string s] w fun e w' => e = .returned (.bool true) ∧ Below w.heap.size w w' := by
  by_cases hl1 : 1048576 < (s.size : Int)
  · exact law_longO s hl1 w
  have hl0 : s.size ≤ 1048576 := by omega
  clear hl1
  obtain ⟨l, rfl⟩ : ∃ l, s = byt l := ⟨s.data.toList, by simp [byt]⟩
  have hl : l.length ≤ 1048576 := by rw [byt_size] at hl0; exact hl0
  have hsz : ¬ 1048576 < (((byt l).size : Nat) : Int) := by omega
  have HW0 := Lib.hid hw
  obtain ⟨e1, e2, e5⟩ := po_same l
  have HS := Lib.hid (fun W => sParseOther l W)
  have HI := Lib.hid (fun W (hW : Set3 W) => iParseOther l hl W hW)
  rw [e2, e1] at HI
  have HLX := Lib.hid e5
  clear e1 e2 e5 hw hl hl0
  generalize mzO l = xs at HS HI HLX
  generalize oqB l = ok at HS HI
  go_enter Tryd.func5, Tryd.ntmps5
  go_wp2_with fail
  refine (HS.out _).mono ?_
  rintro e w2 ⟨u2, rfl, m2, hb2⟩
  have M0 := Lib.hid m2
  obtain ⟨_, a3, c3, rfl, _⟩ := m2
  have B0 := Lib.hid (Bo.new w2 (.slice a3 xs.length c3) 42)
  have HW1 := Lib.hid hb2.size
  replace M0 := Lib.hid (M0.out.kept (below_new w2 (.cells #[.slice a3 xs.length c3] 42)))
  have HB := Lib.hid (hb2.trans ((below_new w2 (.cells #[.slice a3 xs.length c3] 42)).mono hb2.size))
  clear hb2
  go_wp2_with fail
  refine (HI.out _ (HW0.out.below HB.out)).mono ?_
  rintro e w4 ⟨u4, rfl, m4, hb4⟩
  have hz4 := hb4.size
  replace B0 := Lib.hid (B0.out.kept hb4)
  replace M0 := Lib.hid (M0.out.kept hb4)
  replace HB := Lib.hid (HB.out.trans (hb4.mono HB.out.size))
  clear hb4
  have M1 := Lib.hid m4
  obtain ⟨_, a7, c7, rfl, _⟩ := m4
  have B1 := Lib.hid (Bo.new w4 (.slice a7 xs.length c7) 42)
  obtain ⟨B0p0, B0p2⟩ := B0.out
  have n2e1 : ¬ w4.heap.size = w2.heap.size := by omega
  have n2e2 : ¬ w2.heap.size = w4.heap.size := by omega
  replace B0 := Lib.hid (B0.out.kept (below_new w4 (.cells #[.slice a7 xs.length c7] 42)))
  replace M0 := Lib.hid (M0.out.kept (below_new w4 (.cells #[.slice a7 xs.length c7] 42)))
  replace M1 := Lib.hid (M1.out.kept (below_new w4 (.cells #[.slice a7 xs.length c7] 42)))
  replace HB := Lib.hid (HB.out.trans ((below_new w4 (.cells #[.slice a7 xs.length c7] 42)).mono HB.out.size))
  have HW := Lib.hid (show w.heap.size ≤ w2.heap.size from HW1.out)
  have hlo : w2.heap.size < (w2.alloc (.cells #[.slice a3 xs.length c3] 42)).heap.size := by simp
  generalize (w2.alloc (.cells #[.slice a3 xs.length c3] 42)).heap.size = lo at *
  go_wp2_with fail
  refine (eqOther_any xs _ _ _ HLX.out M1.out.isIn M0.out.isIn).mono ?_
  rintro e w5 ⟨rfl, hb5⟩
  clear B0p0 B0p2
  clear n2e1 n2e2
  replace B0 := Lib.hid (B0.out.kept hb5)
  replace B1 := Lib.hid (B1.out.kept hb5)
  replace M0 := Lib.hid (M0.out.kept hb5)
  replace M1 := Lib.hid (M1.out.kept hb5)
  replace HB := Lib.hid (HB.out.trans (hb5.mono HB.out.size))
  clear hb5
  obtain ⟨B1p0, B1p2⟩ := B1.out
  go_wp2_with fail
  refine (markOther_any xs _ _ _ _ HLX.out M1.out).mono ?_
  rintro e w6 ⟨rfl, ht, mk⟩
  replace B0 := Lib.hid (B0.out.touch ht (.inl hlo))
  replace B1 := Lib.hid (B1.out.touch ht (.inr (Nat.le_refl _)))
  replace M0 := Lib.hid (M0.out.touch ht (.inl (Nat.le_of_lt hlo)))
  replace M1 := Lib.hid mk
  replace HB := Lib.hid (HB.out.trans (ht.below (by have := HW.out; omega) HB.out.size))
  clear ht mk
  clear B1p0 B1p2
  obtain ⟨B1p0, B1p2⟩ := B1.out
  have hl1 : (xs.length : Int) ≤ 1048576 := by have := HLX.out; omega
  have hd : decide (1 + 3 * (xs.length : Int) < 0) = false := by simp; omega
  go_wp2_with fail
  refine (heldOther_any xs.length _ _ _ _ HLX.out M1.out).mono ?_
  rintro e w7 ⟨rfl, hb7⟩
  clear B1p0 B1p2
  replace B0 := Lib.hid (B0.out.kept hb7)
  replace B1 := Lib.hid (B1.out.kept hb7)
  replace M0 := Lib.hid (M0.out.kept hb7)
  replace M1 := Lib.hid (M1.out.kept hb7)
  replace HB := Lib.hid (HB.out.trans (hb7.mono HB.out.size))
  clear hb7
  go_wp2_with fail
  refine (HI.out _ (HW0.out.below HB.out)).mono ?_
  rintro e w9 ⟨u9, rfl, m9, hb9⟩
  replace B0 := Lib.hid (B0.out.kept hb9)
  replace B1 := Lib.hid (B1.out.kept hb9)
  replace M0 := Lib.hid (M0.out.kept hb9)
  replace M1 := Lib.hid (M1.out.kept hb9)
  replace HB := Lib.hid (HB.out.trans (hb9.mono HB.out.size))
  clear hb9
  have M2 := Lib.hid m9
  obtain ⟨_, a9, c9, rfl, _⟩ := m9
  have hzz : w4.heap.size < w9.heap.size := B1.out.2
  obtain ⟨B0p0, B0p2⟩ := B0.out
  obtain ⟨B1p0, B1p2⟩ := B1.out
  have n3e1 : ¬ w9.heap.size = w2.heap.size := by omega
  have n3e2 : ¬ w2.heap.size = w9.heap.size := by omega
  have n4e1 : ¬ w9.heap.size = w4.heap.size := by omega
  have n4e2 : ¬ w4.heap.size = w9.heap.size := by omega
  replace B1 := Lib.hid (B1.out.kept (below_new w9 (.cells #[.slice a9 xs.length c9] 42)))
  replace M0 := Lib.hid (M0.out.kept (below_new w9 (.cells #[.slice a9 xs.length c9] 42)))
  replace M1 := Lib.hid (M1.out.kept (below_new w9 (.cells #[.slice a9 xs.length c9] 42)))
  replace M2 := Lib.hid (M2.out.kept (below_new w9 (.cells #[.slice a9 xs.length c9] 42)))
  replace HB := Lib.hid (HB.out.trans ((below_new w9 (.cells #[.slice a9 xs.length c9] 42)).mono HB.out.size))
  go_wp2_with fail
  refine (eqOther_any xs _ _ _ HLX.out M2.out.isIn M0.out.isIn).mono ?_
  rintro e w10 ⟨rfl, hb10⟩
  clear B0p0 B0p2
  clear B1p0 B1p2
  clear n3e1 n3e2
  clear n4e1 n4e2
  replace B1 := Lib.hid (B1.out.kept hb10)
  replace M1 := Lib.hid (M1.out.kept hb10)
  replace HB := Lib.hid (HB.out.trans (hb10.mono HB.out.size))
  clear hb10
  obtain ⟨B1p0, B1p2⟩ := B1.out
  go_wp2_with fail
  refine (heldOther_any xs.length _ _ _ _ HLX.out M1.out).mono ?_
  rintro e w11 ⟨rfl, hb11⟩
  replace HB := Lib.hid (HB.out.trans (hb11.mono HB.out.size))
  clear hb11
  go_wp2_with fail
  go_ret
  exact ⟨rfl, HB.out⟩
end Go.Proofs.YtgobjobppajkbaaDoor
