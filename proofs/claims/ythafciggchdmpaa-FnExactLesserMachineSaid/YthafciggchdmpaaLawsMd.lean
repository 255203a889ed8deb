/-
  THE WALKS OF THE LAWS 'AddMachine', 'LesserMachine'.
-/
import Derived.Test.YthafciggchdmpaaBx
namespace Go.Proofs.Ythafciggchdmpaa
open Go.RowKit
set_option linter.unusedVariables false

set_option maxHeartbeats 4000000 in
theorem fnExactAddMachine_law (p q : Int) (hp : (Lit.int .i64 p).wf = true) (hq : (Lit.int .i64 q).wf = true) (w : World) :
    Calls Try.prog 5 #[.int .i64 p, .int .i64 q] w fun e w' => e = .returned (.bool true) ∧ Below w.heap.size w w' := by
  have HS := Lib.hid (fun W => sAddMachine p q W)
  have HI := Lib.hid (fun W => iAddMachine p q W)
  have HL1 : Hid ((addN p q).length ≤ 1048576) := Lib.hid (by unfold addN; split <;> simp)
  have HL2 : Hid ((addD p q).length ≤ 1048576) := Lib.hid (by unfold addD; split <;> simp)
  generalize addN p q = ns at HS HI HL1
  generalize addD p q = ds at HS HI HL2
  generalize addB p q = ok at HS HI
  go_enter Try.func5, Try.ntmps5
  go_wp2_with fail
  refine (HS.out _).mono ?_
  rintro e w1 ⟨v0, rfl, m0, hb1⟩
  have M0 := Lib.hid m0
  obtain ⟨_, a1, c1, a2, c2, rfl, _⟩ := m0
  have HW1 := Lib.hid hb1.size
  have B0 := Lib.hid (Bx.new w1 (.slice a1 ns.length c1) (.slice a2 ds.length c2) 34)
  replace M0 := Lib.hid (M0.out.kept (below_alloc w1 (.cells #[.slice a1 ns.length c1, .slice a2 ds.length c2] 34)))
  have HB := Lib.hid (hb1.trans ((below_alloc w1 (.cells #[.slice a1 ns.length c1, .slice a2 ds.length c2] 34)).mono hb1.size))
  clear hb1
  go_wp2_with fail
  refine (HI.out _).mono ?_
  rintro e w2 ⟨v1, rfl, m1, hb2⟩
  have hz2 := hb2.size
  replace B0 := Lib.hid (B0.out.kept hb2)
  replace M0 := Lib.hid (M0.out.kept hb2)
  replace HB := Lib.hid (HB.out.trans (hb2.mono HB.out.size))
  have M1 := Lib.hid m1
  obtain ⟨_, a3, c3, a4, c4, rfl, _⟩ := m1
  have B1 := Lib.hid (Bx.new w2 (.slice a3 ns.length c3) (.slice a4 ds.length c4) 34)
  obtain ⟨p0, p1, p2⟩ := B0.out
  have p3 : ¬ w2.heap.size = w1.heap.size := by omega
  have p4 : ¬ w1.heap.size = w2.heap.size := by omega
  replace B0 := Lib.hid (B0.out.grow (.cells #[.slice a3 ns.length c3, .slice a4 ds.length c4] 34))
  replace M0 := Lib.hid (M0.out.kept (below_alloc w2 (.cells #[.slice a3 ns.length c3, .slice a4 ds.length c4] 34)))
  replace M1 := Lib.hid (M1.out.kept (below_alloc w2 (.cells #[.slice a3 ns.length c3, .slice a4 ds.length c4] 34)))
  replace HB := Lib.hid (HB.out.trans ((below_alloc w2 (.cells #[.slice a3 ns.length c3, .slice a4 ds.length c4] 34)).mono HB.out.size))
  have HW := Lib.hid (show w.heap.size ≤ w1.heap.size from HW1.out)
  have hlo : w1.heap.size < (w1.alloc (.cells #[.slice a1 ns.length c1, .slice a2 ds.length c2] 34)).heap.size := by simp
  generalize (w1.alloc (.cells #[.slice a1 ns.length c1, .slice a2 ds.length c2] 34)).heap.size = lo at *
  clear hb2
  go_wp2_with fail
  refine (eqMachine_any ns ds _ _ _ HL1.out HL2.out M1.out.isIn M0.out.isIn).mono ?_
  rintro e w3 ⟨rfl, hb3⟩
  replace B0 := Lib.hid (B0.out.kept hb3)
  replace B1 := Lib.hid (B1.out.kept hb3)
  replace M0 := Lib.hid (M0.out.kept hb3)
  replace M1 := Lib.hid (M1.out.kept hb3)
  replace HB := Lib.hid (HB.out.trans (hb3.mono HB.out.size))
  clear hb3 p0 p1 p2 p3 p4
  obtain ⟨p0, p1, p2⟩ := B0.out
  obtain ⟨q0, q1, q2⟩ := B1.out
  go_wp2_with fail
  refine (markMachine_any ns ds _ _ _ _ HL1.out HL2.out M1.out).mono ?_
  rintro e w4 ⟨rfl, ht, mk⟩
  replace B0 := Lib.hid (B0.out.touch ht (.inl hlo))
  replace B1 := Lib.hid (B1.out.touch ht (.inr (Nat.le_refl _)))
  replace M0 := Lib.hid (M0.out.touch ht (.inl (Nat.le_of_lt hlo)))
  replace M1 := Lib.hid mk
  replace HB := Lib.hid (HB.out.trans (ht.below (by have := HW.out; omega) HB.out.size))
  clear ht mk p0 p1 p2 q0 q1 q2
  obtain ⟨p0, p1, p2⟩ := B0.out
  obtain ⟨q0, q1, q2⟩ := B1.out
  have hl1 : (ns.length : Int) ≤ 1048576 := by have := HL1.out; omega
  have hl2 : (ds.length : Int) ≤ 1048576 := by have := HL2.out; omega
  have hd : decide (1 + (ns.length : Int) + (ds.length : Int) < 0) = false := by simp; omega
  go_wp2_with fail
  refine (heldMachine_any ns.length ds.length _ _ _ _ HL1.out HL2.out M1.out).mono ?_
  rintro e w5 ⟨rfl, hb5⟩
  replace B0 := Lib.hid (B0.out.kept hb5)
  replace B1 := Lib.hid (B1.out.kept hb5)
  replace M0 := Lib.hid (M0.out.kept hb5)
  replace M1 := Lib.hid (M1.out.kept hb5)
  replace HB := Lib.hid (HB.out.trans (hb5.mono HB.out.size))
  clear hb5 p0 p1 p2 q0 q1 q2
  obtain ⟨p0, p1, p2⟩ := B0.out
  obtain ⟨q0, q1, q2⟩ := B1.out
  go_wp2_with fail
  refine (HI.out _).mono ?_
  rintro e w6 ⟨v2, rfl, m2, hb6⟩
  replace B0 := Lib.hid (B0.out.kept hb6)
  replace B1 := Lib.hid (B1.out.kept hb6)
  replace M0 := Lib.hid (M0.out.kept hb6)
  replace M1 := Lib.hid (M1.out.kept hb6)
  replace HB := Lib.hid (HB.out.trans (hb6.mono HB.out.size))
  have M2 := Lib.hid m2
  obtain ⟨_, a5, c5, a6, c6, rfl, _⟩ := m2
  clear hb6 p0 p1 p2 q0 q1 q2
  obtain ⟨p0, p1, p2⟩ := B0.out
  obtain ⟨q0, q1, q2⟩ := B1.out
  have p3 : ¬ w6.heap.size = w1.heap.size := by omega
  have p4 : ¬ w1.heap.size = w6.heap.size := by omega
  have q3 : ¬ w6.heap.size = w2.heap.size := by omega
  have q4 : ¬ w2.heap.size = w6.heap.size := by omega
  replace B1 := Lib.hid (B1.out.grow (.cells #[.slice a5 ns.length c5, .slice a6 ds.length c6] 34))
  replace M0 := Lib.hid (M0.out.kept (below_alloc w6 (.cells #[.slice a5 ns.length c5, .slice a6 ds.length c6] 34)))
  replace M1 := Lib.hid (M1.out.kept (below_alloc w6 (.cells #[.slice a5 ns.length c5, .slice a6 ds.length c6] 34)))
  replace M2 := Lib.hid (M2.out.kept (below_alloc w6 (.cells #[.slice a5 ns.length c5, .slice a6 ds.length c6] 34)))
  replace HB := Lib.hid (HB.out.trans ((below_alloc w6 (.cells #[.slice a5 ns.length c5, .slice a6 ds.length c6] 34)).mono HB.out.size))
  go_wp2_with fail
  refine (eqMachine_any ns ds _ _ _ HL1.out HL2.out M2.out.isIn M0.out.isIn).mono ?_
  rintro e w7 ⟨rfl, hb7⟩
  replace B1 := Lib.hid (B1.out.kept hb7)
  replace M1 := Lib.hid (M1.out.kept hb7)
  replace HB := Lib.hid (HB.out.trans (hb7.mono HB.out.size))
  clear hb7 p0 p1 p2 p3 p4 q0 q1 q2 q3 q4
  obtain ⟨q0, q1, q2⟩ := B1.out
  go_wp2_with fail
  refine (heldMachine_any ns.length ds.length _ _ _ _ HL1.out HL2.out M1.out).mono ?_
  rintro e w8 ⟨rfl, hb8⟩
  replace HB := Lib.hid (HB.out.trans (hb8.mono HB.out.size))
  clear hb8
  go_wp2_with fail
  go_ret
  exact ⟨rfl, HB.out⟩

set_option maxHeartbeats 4000000 in
theorem fnExactLesserMachine_law (p q r : Int) (hp : (Lit.int .i64 p).wf = true) (hq : (Lit.int .i64 q).wf = true) (hr : (Lit.int .i64 r).wf = true) (w : World) :
    Calls Try.prog 6 #[.int .i64 p, .int .i64 q, .int .i64 r] w fun e w' => e = .returned (.bool true) ∧ Below w.heap.size w w' := by
  have HS := Lib.hid (fun W => sLesserMachine p q r W)
  have HI := Lib.hid (fun W => iLesserMachine p q r W)
  have HL1 : Hid ((lesN p q r).length ≤ 1048576) := Lib.hid (by unfold lesN; split <;> simp)
  have HL2 : Hid ((lesD p q r).length ≤ 1048576) := Lib.hid (by unfold lesD; split <;> simp)
  generalize lesN p q r = ns at HS HI HL1
  generalize lesD p q r = ds at HS HI HL2
  generalize lesB p q r = ok at HS HI
  go_enter Try.func6, Try.ntmps6
  go_wp2_with fail
  refine (HS.out _).mono ?_
  rintro e w1 ⟨v0, rfl, m0, hb1⟩
  have M0 := Lib.hid m0
  obtain ⟨_, a1, c1, a2, c2, rfl, _⟩ := m0
  have HW1 := Lib.hid hb1.size
  have B0 := Lib.hid (Bx.new w1 (.slice a1 ns.length c1) (.slice a2 ds.length c2) 34)
  replace M0 := Lib.hid (M0.out.kept (below_alloc w1 (.cells #[.slice a1 ns.length c1, .slice a2 ds.length c2] 34)))
  have HB := Lib.hid (hb1.trans ((below_alloc w1 (.cells #[.slice a1 ns.length c1, .slice a2 ds.length c2] 34)).mono hb1.size))
  clear hb1
  go_wp2_with fail
  refine (HI.out _).mono ?_
  rintro e w2 ⟨v1, rfl, m1, hb2⟩
  have hz2 := hb2.size
  replace B0 := Lib.hid (B0.out.kept hb2)
  replace M0 := Lib.hid (M0.out.kept hb2)
  replace HB := Lib.hid (HB.out.trans (hb2.mono HB.out.size))
  have M1 := Lib.hid m1
  obtain ⟨_, a3, c3, a4, c4, rfl, _⟩ := m1
  have B1 := Lib.hid (Bx.new w2 (.slice a3 ns.length c3) (.slice a4 ds.length c4) 34)
  obtain ⟨p0, p1, p2⟩ := B0.out
  have p3 : ¬ w2.heap.size = w1.heap.size := by omega
  have p4 : ¬ w1.heap.size = w2.heap.size := by omega
  replace B0 := Lib.hid (B0.out.grow (.cells #[.slice a3 ns.length c3, .slice a4 ds.length c4] 34))
  replace M0 := Lib.hid (M0.out.kept (below_alloc w2 (.cells #[.slice a3 ns.length c3, .slice a4 ds.length c4] 34)))
  replace M1 := Lib.hid (M1.out.kept (below_alloc w2 (.cells #[.slice a3 ns.length c3, .slice a4 ds.length c4] 34)))
  replace HB := Lib.hid (HB.out.trans ((below_alloc w2 (.cells #[.slice a3 ns.length c3, .slice a4 ds.length c4] 34)).mono HB.out.size))
  have HW := Lib.hid (show w.heap.size ≤ w1.heap.size from HW1.out)
  have hlo : w1.heap.size < (w1.alloc (.cells #[.slice a1 ns.length c1, .slice a2 ds.length c2] 34)).heap.size := by simp
  generalize (w1.alloc (.cells #[.slice a1 ns.length c1, .slice a2 ds.length c2] 34)).heap.size = lo at *
  clear hb2
  go_wp2_with fail
  refine (eqMachine_any ns ds _ _ _ HL1.out HL2.out M1.out.isIn M0.out.isIn).mono ?_
  rintro e w3 ⟨rfl, hb3⟩
  replace B0 := Lib.hid (B0.out.kept hb3)
  replace B1 := Lib.hid (B1.out.kept hb3)
  replace M0 := Lib.hid (M0.out.kept hb3)
  replace M1 := Lib.hid (M1.out.kept hb3)
  replace HB := Lib.hid (HB.out.trans (hb3.mono HB.out.size))
  clear hb3 p0 p1 p2 p3 p4
  obtain ⟨p0, p1, p2⟩ := B0.out
  obtain ⟨q0, q1, q2⟩ := B1.out
  go_wp2_with fail
  refine (markMachine_any ns ds _ _ _ _ HL1.out HL2.out M1.out).mono ?_
  rintro e w4 ⟨rfl, ht, mk⟩
  replace B0 := Lib.hid (B0.out.touch ht (.inl hlo))
  replace B1 := Lib.hid (B1.out.touch ht (.inr (Nat.le_refl _)))
  replace M0 := Lib.hid (M0.out.touch ht (.inl (Nat.le_of_lt hlo)))
  replace M1 := Lib.hid mk
  replace HB := Lib.hid (HB.out.trans (ht.below (by have := HW.out; omega) HB.out.size))
  clear ht mk p0 p1 p2 q0 q1 q2
  obtain ⟨p0, p1, p2⟩ := B0.out
  obtain ⟨q0, q1, q2⟩ := B1.out
  have hl1 : (ns.length : Int) ≤ 1048576 := by have := HL1.out; omega
  have hl2 : (ds.length : Int) ≤ 1048576 := by have := HL2.out; omega
  have hd : decide (1 + (ns.length : Int) + (ds.length : Int) < 0) = false := by simp; omega
  go_wp2_with fail
  refine (heldMachine_any ns.length ds.length _ _ _ _ HL1.out HL2.out M1.out).mono ?_
  rintro e w5 ⟨rfl, hb5⟩
  replace B0 := Lib.hid (B0.out.kept hb5)
  replace B1 := Lib.hid (B1.out.kept hb5)
  replace M0 := Lib.hid (M0.out.kept hb5)
  replace M1 := Lib.hid (M1.out.kept hb5)
  replace HB := Lib.hid (HB.out.trans (hb5.mono HB.out.size))
  clear hb5 p0 p1 p2 q0 q1 q2
  obtain ⟨p0, p1, p2⟩ := B0.out
  obtain ⟨q0, q1, q2⟩ := B1.out
  go_wp2_with fail
  refine (HI.out _).mono ?_
  rintro e w6 ⟨v2, rfl, m2, hb6⟩
  replace B0 := Lib.hid (B0.out.kept hb6)
  replace B1 := Lib.hid (B1.out.kept hb6)
  replace M0 := Lib.hid (M0.out.kept hb6)
  replace M1 := Lib.hid (M1.out.kept hb6)
  replace HB := Lib.hid (HB.out.trans (hb6.mono HB.out.size))
  have M2 := Lib.hid m2
  obtain ⟨_, a5, c5, a6, c6, rfl, _⟩ := m2
  clear hb6 p0 p1 p2 q0 q1 q2
  obtain ⟨p0, p1, p2⟩ := B0.out
  obtain ⟨q0, q1, q2⟩ := B1.out
  have p3 : ¬ w6.heap.size = w1.heap.size := by omega
  have p4 : ¬ w1.heap.size = w6.heap.size := by omega
  have q3 : ¬ w6.heap.size = w2.heap.size := by omega
  have q4 : ¬ w2.heap.size = w6.heap.size := by omega
  replace B1 := Lib.hid (B1.out.grow (.cells #[.slice a5 ns.length c5, .slice a6 ds.length c6] 34))
  replace M0 := Lib.hid (M0.out.kept (below_alloc w6 (.cells #[.slice a5 ns.length c5, .slice a6 ds.length c6] 34)))
  replace M1 := Lib.hid (M1.out.kept (below_alloc w6 (.cells #[.slice a5 ns.length c5, .slice a6 ds.length c6] 34)))
  replace M2 := Lib.hid (M2.out.kept (below_alloc w6 (.cells #[.slice a5 ns.length c5, .slice a6 ds.length c6] 34)))
  replace HB := Lib.hid (HB.out.trans ((below_alloc w6 (.cells #[.slice a5 ns.length c5, .slice a6 ds.length c6] 34)).mono HB.out.size))
  go_wp2_with fail
  refine (eqMachine_any ns ds _ _ _ HL1.out HL2.out M2.out.isIn M0.out.isIn).mono ?_
  rintro e w7 ⟨rfl, hb7⟩
  replace B1 := Lib.hid (B1.out.kept hb7)
  replace M1 := Lib.hid (M1.out.kept hb7)
  replace HB := Lib.hid (HB.out.trans (hb7.mono HB.out.size))
  clear hb7 p0 p1 p2 p3 p4 q0 q1 q2 q3 q4
  obtain ⟨q0, q1, q2⟩ := B1.out
  go_wp2_with fail
  refine (heldMachine_any ns.length ds.length _ _ _ _ HL1.out HL2.out M1.out).mono ?_
  rintro e w8 ⟨rfl, hb8⟩
  replace HB := Lib.hid (HB.out.trans (hb8.mono HB.out.size))
  clear hb8
  go_wp2_with fail
  go_ret
  exact ⟨rfl, HB.out⟩
end Go.Proofs.Ythafciggchdmpaa
