/-
  'makeClue' OF THE PROGRAM.
-/
import Derived.Test.YtkikmmnmppikpaaMkI
import Derived.Test.YtkikmmnmppikpaaMkT
import Derived.Test.YtkikmmnmppikpaaPzI
import Derived.Deep.RegionHeld3
namespace Go.Proofs.Ytkikmmnmppikpaa
open Go.RowKit
set_option linter.unusedVariables false

/-- The box of the closure's number. -/
def Zb (w : World) (b : Nat) (z : Int) : Prop := w.cell? ⟨b, 0, none⟩ = some (.int .i64 z) ∧ w.frozen? ⟨b, 0, none⟩ = false ∧ b < w.heap.size
theorem Zb.kept {w w' : World} {b n : Nat} {z : Int} (h : Zb w b z) (hb : Below n w w') (hn : b < n) : Zb w' b z := ⟨(hb.cell (p := ⟨b, 0, none⟩) hn).trans h.1, (hb.frozen (p := ⟨b, 0, none⟩) hn).trans h.2.1, Nat.lt_of_lt_of_le h.2.2 hb.size⟩
theorem Zb.put {w : World} {b : Nat} {z : Int} (h : Zb w b z) (y : Int) : Zb (w.setCell ⟨b, 0, none⟩ (.int .i64 y)) b y := ⟨World.cell?_setCell_same' _ _ _ (by rw [h.1]; rfl), by rw [World.frozen?_setCell]; exact h.2.1, by simpa using h.2.2⟩
theorem Zb.set2 {w : World} {b c : Nat} {z : Int} (h : Zb w b z) (hb : b ≠ c) (o : Nat) (u : Value) : Zb (w.setCell ⟨c, o, none⟩ u) b z := ⟨(World.cell?_setCell_other _ _ _ _ (by intro e; cases e; exact hb rfl)).trans h.1, by rw [World.frozen?_setCell]; exact h.2.1, by simpa using h.2.2⟩
theorem BzF.put1 {w : World} {b : Nat} {x y : Int} {z : Value} (h : BzF w b x y z) (u : Int) : BzF (w.setCell ⟨b, 1, none⟩ (.int .i64 u)) b x u z := by
  obtain ⟨c0, c1, c2, _⟩ := h.cells
  exact ⟨⟨⟨(World.cell?_setCell_other _ _ _ _ (by simp)).trans c0, World.cell?_setCell_same' _ _ _ (by rw [c1]; rfl), (World.cell?_setCell_other _ _ _ _ (by simp)).trans c2⟩, by simpa using h.1.2⟩, fun o => by rw [World.frozen?_setCell]; exact h.2 o⟩
theorem Touch.put {lo hi : Nat} {A B : World} (h : Touch lo hi A B) {p : Addr} (hp : A.heap.size ≤ p.block) (u : Value) : Touch lo hi A (B.setCell p u) :=
  ⟨h.os, h.tape, h.output, by simpa [World.setCell] using h.size, fun k hk hr => (Below.heap_setCell _ _ _ _ (by omega)).trans (h.block k hk hr)⟩
/-- A box of two numbers. -/
theorem Bm.new2 (w : World) (l g : Int) (T : TypeId) {b : Nat} (hb : w.heap.size = b) : Bm (w.alloc (.cells #[.int .i64 l, .int .i64 g] T)) b l g := by subst hb; exact Bm.new _ _ _ _
theorem nextZ_any (z : Int) (b : Nat) (w : World) (h0 : 0 ≤ z) (h1 : z ≤ 10006) (h : Zb w b z) :
    Calls Try.prog 93 #[.pointer (some ⟨b, 0, none⟩)] w fun e w' => e = .returned (.int .i64 (zN z)) ∧ w.setCell ⟨b, 0, none⟩ (.int .i64 (zN z)) = w' := nextNumber_any z b w h0 h1 h.1 h.2.1

set_option maxRecDepth 100000 in
set_option maxHeartbeats 8000000 in
theorem makeClue_any (t p n z : Int) (b : Nat) (w : World) (hn0 : 0 ≤ n) (h0 : 0 ≤ z) (h1 : z ≤ 10006) (hz : Zb w b z) :
    Calls Try.prog 69 #[.agg #[.int .i64 t, .int .i64 p], .int .i64 n, .func (.func 93) #[] #[.pointer (some ⟨b, 0, none⟩)]] w fun e w' => e = .returned (.agg #[.int .i64 (kZ z), .int .i64 (aZ z), .int .i64 (vlP t p (kZ z) (aZ z) n).1]) ∧ Touch b (b + 1) w w' ∧ Zb w' b (zN (zN z)) := by
  have hbw := hz.2.2
  have Z0 : Hid (Zb ((w.alloc (.cells #[.int .i64 t, .int .i64 p] 23)).alloc (.cells #[.int .i64 0, .int .i64 0, .int .i64 0] 96)) b z) := Lib.hid (hz.kept ((below_new w _).alloc (by simp) _) hbw)
  have M0 : Hid (Bm ((w.alloc (.cells #[.int .i64 t, .int .i64 p] 23)).alloc (.cells #[.int .i64 0, .int .i64 0, .int .i64 0] 96)) w.heap.size t p) := Lib.hid ((Bm.new _ _ _ _).keep (below_new _ _))
  have R0 : Hid (BzF ((w.alloc (.cells #[.int .i64 t, .int .i64 p] 23)).alloc (.cells #[.int .i64 0, .int .i64 0, .int .i64 0] 96)) (w.heap.size + 1) 0 0 (.int .i64 0)) := Lib.hid (BzF.new _ _ _ _ _ (by simp))
  have T0 : Hid (Touch b (b + 1) w ((w.alloc (.cells #[.int .i64 t, .int .i64 p] 23)).alloc (.cells #[.int .i64 0, .int .i64 0, .int .i64 0] 96))) := Lib.hid (((Touch.refl _ _ _).alloc _).alloc _)
  have hs0 : ((w.alloc (.cells #[.int .i64 t, .int .i64 p] 23)).alloc (.cells #[.int .i64 0, .int .i64 0, .int .i64 0] 96)).heap.size = w.heap.size + 1 + 1 := by simp
  have zi := zN_in z
  obtain ⟨ak0, ak1⟩ := kZ_in z
  obtain ⟨aa0, aa1, aa2⟩ := aZ_in z
  have ht5 : (zN z).tmod 5 = kZ z := Int.tmod_eq_emod_of_nonneg (by omega)
  clear hz
  go_enter Try.func69, Try.ntmps69
  go_wp2_with fail
  refine (nextZ_any z b _ h0 h1 Z0.out).mono ?_
  rintro e w1 ⟨rfl, hw1⟩
  have Z1 : Hid (Zb w1 b (zN z)) := Lib.hid (by rw [← hw1]; exact Z0.out.put _)
  have M1 : Hid (Bm w1 w.heap.size t p) := Lib.hid (by rw [← hw1]; exact M0.out.set2 (by omega) _ _)
  have R1 : Hid (BzF w1 (w.heap.size + 1) 0 0 (.int .i64 0)) := Lib.hid (by rw [← hw1]; exact R0.out.set2 (by omega) _ _)
  have T1 : Hid (Touch b (b + 1) w w1) := Lib.hid (by rw [← hw1]; exact T0.out.setCell (p := ⟨b, 0, none⟩) (Nat.le_refl _) (Nat.lt_succ_self _) _)
  have hs1 : w.heap.size + 1 < w1.heap.size := R1.out.1.2
  clear hw1 Z0 M0 R0 T0 hs0
  have C1 := Lib.hid (BzF.new w1 (kZ z) 0 (.int .i64 0) 96 rfl)
  have HB1 := Lib.hid (below_new w1 (.cells #[.int .i64 (kZ z), .int .i64 0, .int .i64 0] 96))
  go_wp2_with fail
  refine (spanA_any (kZ z) 0 0 _ ak0 ak1).mono ?_
  rintro e w3 ⟨l2, g2, rfl, hb3⟩
  have hs3 := (HB1.out.trans (hb3.mono HB1.out.size)).size
  have HB3 := Lib.hid (HB1.out.trans (hb3.mono HB1.out.size))
  have C3 := Lib.hid (C1.out.kept hb3)
  have hc3 : w1.heap.size < w3.heap.size := C3.out.1.2
  have Z3 := Lib.hid (Z1.out.kept HB3.out (by omega))
  have M3 := Lib.hid (M1.out.kept HB3.out (by omega))
  have R3 := Lib.hid (R1.out.kept2 HB3.out (by omega))
  have T3 := Lib.hid (T1.out.trans (Touch.of_below HB3.out))
  clear hb3 HB1 HB3 C1 Z1 M1 R1 T1
  have zi2 := zN_in (zN z)
  have HV := Lib.hid (fun W => valueOf_any t p (kZ z) (aZ z) 0 n W hn0 ak0 ak1 aa2)
  generalize hV : (vlP t p (kZ z) (aZ z) n).1 = V at HV ⊢
  generalize (vlP t p (kZ z) (aZ z) n).2 = vok at HV
  have HVV := Lib.hid hV
  clear hV
  by_cases hk : kZ z = 0
  · have e := aZ_zero hk
    have ht : (zN (zN z)).tmod 11 = zN (zN z) % 11 := Int.tmod_eq_emod_of_nonneg (by omega)
    have hm : 0 ≤ zN (zN z) % 11 ∧ zN (zN z) % 11 ≤ 10 := by omega
    have hwa : IntKind.i64.wrap 10 = 10 := by decide
    have hwb : IntKind.i64.wrap 11 = 11 := by decide
    have hwc : IntKind.i64.wrap (10 + 1) = 11 := by decide
    have hw2 : IntKind.i64.wrap (zN (zN z) % 11 + 2) = zN (zN z) % 11 + 2 := IntWalk.i64_in _ (by omega)
    rw [hk] at C3 HV ⊢
    rw [e] at HV
    rw [if_pos rfl, if_pos rfl]
    clear ht5 aa0 aa1 aa2 ak0 ak1
    have hb4 : Below w3.heap.size w3 ((w3.alloc (.cells #[.int .i64 2, .int .i64 12] 122)).alloc (.cells #[.int .i64 l2, .int .i64 g2] 122)) := (below_new w3 _).alloc (by simp) _
    have C4 := Lib.hid (C3.out.kept hb4)
    have Z4 := Lib.hid (Z3.out.kept hb4 (by omega))
    have M4 := Lib.hid (M3.out.keep hb4)
    have R4 := Lib.hid (R3.out.kept hb4)
    have T4 := Lib.hid (T3.out.trans (Touch.of_below hb4))
    have S4 : Hid (Bm ((w3.alloc (.cells #[.int .i64 2, .int .i64 12] 122)).alloc (.cells #[.int .i64 l2, .int .i64 g2] 122)) w3.heap.size 2 12) := Lib.hid ((Bm.new _ _ _ _).keep (below_new _ _))
    clear hb4
    go_upto_region 3 with fail
    generalize ((w3.alloc (.cells #[.int .i64 2, .int .i64 12] 122)).alloc (.cells #[.int .i64 l2, .int .i64 g2] 122)) = w4 at C4 Z4 M4 R4 T4 S4 ⊢
    have hs4 : w3.heap.size < w4.heap.size := S4.out.2
    obtain ⟨⟨s0, s1⟩, s2⟩ := S4.out
    have ne1 : ¬ (w1.heap.size = w3.heap.size) := by omega
    have ne2 : ¬ (w3.heap.size = w1.heap.size) := by omega
    go_region_held3 (fun w' => w'.cell? ⟨w3.heap.size, 0, none⟩ = some (.int .i64 2) ∧ w'.cell? ⟨w3.heap.size, 1, none⟩ = some (.int .i64 12)) (go_keep)
      ((go_at_call 93; refine (nextZ_any (zN z) b _ zi.1 zi.2 (by first | exact Z4.out | exact Z4.out.kept (Below.refl (b + 1) _).drew (Nat.lt_succ_self _))).mono ?_; rintro e wA ⟨rfl, hwA⟩; have SA : Hid (Bm wA w3.heap.size 2 12) := Lib.hid (by rw [← hwA]; exact Bm.set2 (by first | exact S4.out | exact S4.out.keep (Below.refl _ _).drew) (by omega) _ _); have CA : Hid (BzF wA w1.heap.size 0 0 (.int .i64 0)) := Lib.hid (by rw [← hwA]; exact BzF.set2 (by first | exact C4.out | exact C4.out.kept (Below.refl _ _).drew) (by omega) _ _); have RA : Hid (BzF wA (w.heap.size + 1) 0 0 (.int .i64 0)) := Lib.hid (by rw [← hwA]; exact BzF.set2 (by first | exact R4.out | exact R4.out.kept (Below.refl _ _).drew) (by omega) _ _); have MA : Hid (Bm wA w.heap.size t p) := Lib.hid (by rw [← hwA]; exact Bm.set2 (by first | exact M4.out | exact M4.out.keep (Below.refl _ _).drew) (by omega) _ _); have ZA : Hid (Zb wA b (zN (zN z))) := Lib.hid (by rw [← hwA]; exact Zb.put (by first | exact Z4.out | exact Z4.out.kept (Below.refl (b + 1) _).drew (Nat.lt_succ_self _)) _); have TA : Hid (Touch b (b + 1) w wA) := Lib.hid (by rw [← hwA]; exact Touch.setCell (by first | exact T4.out | exact T4.out.trans (Touch.of_below (Below.refl _ _).drew)) (p := ⟨b, 0, none⟩) (Nat.le_refl _) (Nat.lt_succ_self _) _); clear hwA; obtain ⟨⟨sa0, sa1⟩, sa2⟩ := SA.out; obtain ⟨ca0, ca1, ca2, cf0, cf1, cf2⟩ := CA.out.cells))
    all_goals
      have C6 := Lib.hid (CA.out.put1 (zN (zN z) % 11 + 2))
      have M6 := Lib.hid (MA.out.set2 (show w.heap.size ≠ w1.heap.size by omega) 1 (.int .i64 (zN (zN z) % 11 + 2)))
      have R6 := Lib.hid (RA.out.set2 (show w.heap.size + 1 ≠ w1.heap.size by omega) 1 (.int .i64 (zN (zN z) % 11 + 2)))
      have Z6 := Lib.hid (ZA.out.set2 (show b ≠ w1.heap.size by omega) 1 (.int .i64 (zN (zN z) % 11 + 2)))
      have T6 := Lib.hid (TA.out.put (p := ⟨w1.heap.size, 1, none⟩) (show w.heap.size ≤ w1.heap.size by omega) (.int .i64 (zN (zN z) % 11 + 2)))
      clear ca0 ca1 ca2 cf0 cf1 cf2 sa0 sa1 sa2 CA MA RA ZA TA SA s0 s1 s2 S4 C4 M4 R4 Z4 T4 C3 M3 R3 Z3 T3
      go_upto_region 4 with fail
      generalize wA.setCell ⟨w1.heap.size, 1, none⟩ (.int .i64 (zN (zN z) % 11 + 2)) = w6 at C6 M6 R6 Z6 T6 ⊢
      obtain ⟨ca0, ca1, ca2, cf0, cf1, cf2⟩ := C6.out.cells
      obtain ⟨⟨m0, m1⟩, m2⟩ := M6.out
      have n1 : ¬ (w1.heap.size = w.heap.size + 1) := by omega
      have n2 : ¬ (w.heap.size + 1 = w1.heap.size) := by omega
      go_wp2_with (go_at_call 95; refine (HV.out _).mono ?_; rintro e w7 ⟨rfl, hb7⟩; have C7 := Lib.hid (C6.out.kept hb7); have R7 := Lib.hid (R6.out.kept hb7); have Z7 := Lib.hid (Z6.out.kept hb7 Z6.out.2.2); have T7 := Lib.hid (T6.out.trans (Touch.of_below hb7)); clear hb7 ca0 ca1 ca2 cf0 cf1 cf2 m0 m1 m2; obtain ⟨ca0, ca1, ca2, cf0, cf1, cf2⟩ := C7.out.cells; obtain ⟨r0, r1, r2, f0, f1, f2⟩ := R7.out.cells)
      have C8 := Lib.hid (C7.out.put2 (.int .i64 V))
      have R8 := Lib.hid (R7.out.set2 (show w.heap.size + 1 ≠ w1.heap.size by omega) 2 (.int .i64 V))
      have Z8 := Lib.hid (Z7.out.set2 (show b ≠ w1.heap.size by omega) 2 (.int .i64 V))
      have T8 := Lib.hid (T7.out.put (p := ⟨w1.heap.size, 2, none⟩) (show w.heap.size ≤ w1.heap.size by omega) (.int .i64 V))
      obtain ⟨c0, c1, c2⟩ := put3_cells R8.out 0 (zN (zN z) % 11 + 2) (.int .i64 V)
      unfold put3 at c0 c1 c2
      refine bodyPost_ret (v := .agg #[.int .i64 0, .int .i64 (zN (zN z) % 11 + 2), .int .i64 V]) (by simp [results, Try.f69, go_sem, c0, c1, c2]) rfl ⟨by rw [← HVV.out, hk, e], ?_, ?_⟩
      · exact ((T8.out.put (p := ⟨w.heap.size + 1, 0, none⟩) (Nat.le_succ _) _).put (p := ⟨w.heap.size + 1, 1, none⟩) (Nat.le_succ _) _).put (p := ⟨w.heap.size + 1, 2, none⟩) (Nat.le_succ _) _
      · exact ((Z8.out.set2 (by omega) 0 _).set2 (by omega) 1 _).set2 (by omega) 2 _
  · have e := aZ_other hk
    have ht : (zN (zN z)).tmod 21 = zN (zN z) % 21 := Int.tmod_eq_emod_of_nonneg (by omega)
    have hm : 0 ≤ zN (zN z) % 21 ∧ zN (zN z) % 21 ≤ 20 := by omega
    have hwa : IntKind.i64.wrap 20 = 20 := by decide
    have hwb : IntKind.i64.wrap 21 = 21 := by decide
    have hwc : IntKind.i64.wrap (20 + 1) = 21 := by decide
    have hw2 : IntKind.i64.wrap (zN (zN z) % 21) = zN (zN z) % 21 := IntWalk.i64_in _ (by omega)
    rw [e] at HV
    rw [if_neg hk, if_neg hk]
    clear ht5 aa0 aa1 aa2 ak0 ak1
    have hb4 : Below w3.heap.size w3 ((w3.alloc (.cells #[.int .i64 0, .int .i64 20] 122)).alloc (.cells #[.int .i64 l2, .int .i64 g2] 122)) := (below_new w3 _).alloc (by simp) _
    have C4 := Lib.hid (C3.out.kept hb4)
    have Z4 := Lib.hid (Z3.out.kept hb4 (by omega))
    have M4 := Lib.hid (M3.out.keep hb4)
    have R4 := Lib.hid (R3.out.kept hb4)
    have T4 := Lib.hid (T3.out.trans (Touch.of_below hb4))
    have S4 : Hid (Bm ((w3.alloc (.cells #[.int .i64 0, .int .i64 20] 122)).alloc (.cells #[.int .i64 l2, .int .i64 g2] 122)) w3.heap.size 0 20) := Lib.hid ((Bm.new _ _ _ _).keep (below_new _ _))
    clear hb4
    go_upto_region 3 with fail
    generalize ((w3.alloc (.cells #[.int .i64 0, .int .i64 20] 122)).alloc (.cells #[.int .i64 l2, .int .i64 g2] 122)) = w4 at C4 Z4 M4 R4 T4 S4 ⊢
    have hs4 : w3.heap.size < w4.heap.size := S4.out.2
    obtain ⟨⟨s0, s1⟩, s2⟩ := S4.out
    have ne1 : ¬ (w1.heap.size = w3.heap.size) := by omega
    have ne2 : ¬ (w3.heap.size = w1.heap.size) := by omega
    go_region_held3 (fun w' => w'.cell? ⟨w3.heap.size, 0, none⟩ = some (.int .i64 0) ∧ w'.cell? ⟨w3.heap.size, 1, none⟩ = some (.int .i64 20)) (go_keep)
      ((go_at_call 93; refine (nextZ_any (zN z) b _ zi.1 zi.2 (by first | exact Z4.out | exact Z4.out.kept (Below.refl (b + 1) _).drew (Nat.lt_succ_self _))).mono ?_; rintro e wA ⟨rfl, hwA⟩; have SA : Hid (Bm wA w3.heap.size 0 20) := Lib.hid (by rw [← hwA]; exact Bm.set2 (by first | exact S4.out | exact S4.out.keep (Below.refl _ _).drew) (by omega) _ _); have CA : Hid (BzF wA w1.heap.size (kZ z) 0 (.int .i64 0)) := Lib.hid (by rw [← hwA]; exact BzF.set2 (by first | exact C4.out | exact C4.out.kept (Below.refl _ _).drew) (by omega) _ _); have RA : Hid (BzF wA (w.heap.size + 1) 0 0 (.int .i64 0)) := Lib.hid (by rw [← hwA]; exact BzF.set2 (by first | exact R4.out | exact R4.out.kept (Below.refl _ _).drew) (by omega) _ _); have MA : Hid (Bm wA w.heap.size t p) := Lib.hid (by rw [← hwA]; exact Bm.set2 (by first | exact M4.out | exact M4.out.keep (Below.refl _ _).drew) (by omega) _ _); have ZA : Hid (Zb wA b (zN (zN z))) := Lib.hid (by rw [← hwA]; exact Zb.put (by first | exact Z4.out | exact Z4.out.kept (Below.refl (b + 1) _).drew (Nat.lt_succ_self _)) _); have TA : Hid (Touch b (b + 1) w wA) := Lib.hid (by rw [← hwA]; exact Touch.setCell (by first | exact T4.out | exact T4.out.trans (Touch.of_below (Below.refl _ _).drew)) (p := ⟨b, 0, none⟩) (Nat.le_refl _) (Nat.lt_succ_self _) _); clear hwA; obtain ⟨⟨sa0, sa1⟩, sa2⟩ := SA.out; obtain ⟨ca0, ca1, ca2, cf0, cf1, cf2⟩ := CA.out.cells))
    all_goals
      have C6 := Lib.hid (CA.out.put1 (zN (zN z) % 21))
      have M6 := Lib.hid (MA.out.set2 (show w.heap.size ≠ w1.heap.size by omega) 1 (.int .i64 (zN (zN z) % 21)))
      have R6 := Lib.hid (RA.out.set2 (show w.heap.size + 1 ≠ w1.heap.size by omega) 1 (.int .i64 (zN (zN z) % 21)))
      have Z6 := Lib.hid (ZA.out.set2 (show b ≠ w1.heap.size by omega) 1 (.int .i64 (zN (zN z) % 21)))
      have T6 := Lib.hid (TA.out.put (p := ⟨w1.heap.size, 1, none⟩) (show w.heap.size ≤ w1.heap.size by omega) (.int .i64 (zN (zN z) % 21)))
      clear ca0 ca1 ca2 cf0 cf1 cf2 sa0 sa1 sa2 CA MA RA ZA TA SA s0 s1 s2 S4 C4 M4 R4 Z4 T4 C3 M3 R3 Z3 T3
      go_upto_region 4 with fail
      generalize wA.setCell ⟨w1.heap.size, 1, none⟩ (.int .i64 (zN (zN z) % 21)) = w6 at C6 M6 R6 Z6 T6 ⊢
      obtain ⟨ca0, ca1, ca2, cf0, cf1, cf2⟩ := C6.out.cells
      obtain ⟨⟨m0, m1⟩, m2⟩ := M6.out
      have n1 : ¬ (w1.heap.size = w.heap.size + 1) := by omega
      have n2 : ¬ (w.heap.size + 1 = w1.heap.size) := by omega
      go_wp2_with (go_at_call 95; refine (HV.out _).mono ?_; rintro e w7 ⟨rfl, hb7⟩; have C7 := Lib.hid (C6.out.kept hb7); have R7 := Lib.hid (R6.out.kept hb7); have Z7 := Lib.hid (Z6.out.kept hb7 Z6.out.2.2); have T7 := Lib.hid (T6.out.trans (Touch.of_below hb7)); clear hb7 ca0 ca1 ca2 cf0 cf1 cf2 m0 m1 m2; obtain ⟨ca0, ca1, ca2, cf0, cf1, cf2⟩ := C7.out.cells; obtain ⟨r0, r1, r2, f0, f1, f2⟩ := R7.out.cells)
      have C8 := Lib.hid (C7.out.put2 (.int .i64 V))
      have R8 := Lib.hid (R7.out.set2 (show w.heap.size + 1 ≠ w1.heap.size by omega) 2 (.int .i64 V))
      have Z8 := Lib.hid (Z7.out.set2 (show b ≠ w1.heap.size by omega) 2 (.int .i64 V))
      have T8 := Lib.hid (T7.out.put (p := ⟨w1.heap.size, 2, none⟩) (show w.heap.size ≤ w1.heap.size by omega) (.int .i64 V))
      obtain ⟨c0, c1, c2⟩ := put3_cells R8.out (kZ z) (zN (zN z) % 21) (.int .i64 V)
      unfold put3 at c0 c1 c2
      refine bodyPost_ret (v := .agg #[.int .i64 (kZ z), .int .i64 (zN (zN z) % 21), .int .i64 V]) (by simp [results, Try.f69, go_sem, c0, c1, c2]) rfl ⟨by rw [← HVV.out, e], ?_, ?_⟩
      · exact ((T8.out.put (p := ⟨w.heap.size + 1, 0, none⟩) (Nat.le_succ _) _).put (p := ⟨w.heap.size + 1, 1, none⟩) (Nat.le_succ _) _).put (p := ⟨w.heap.size + 1, 2, none⟩) (Nat.le_succ _) _
      · exact ((Z8.out.set2 (by omega) 0 _).set2 (by omega) 1 _).set2 (by omega) 2 _
end Go.Proofs.Ytkikmmnmppikpaa
