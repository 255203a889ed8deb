/-
  WHAT A WORD DOES, IN THE MODEL: 'woLine'.
-/
import Derived.Test.YtgobjobppajkbaaDoorWordG
import Derived.Test.YtgobjobppajkbaaDoorNumB
import Derived.Lib.OthersKept
import Derived.IntWalk
import Derived.Outline
namespace Go.Proofs.YtgobjobppajkbaaDoor
open Go.RowKit
set_option linter.unusedVariables false

/-- One sign more, case by case. -/
theorem lin_oo {t p a b r : Int} {l : List UInt8} {k : Nat} (hx : lin t p l k = (a, b, r)) (hc : l.getD k 0 = 111) (hb : b % 2 = 1) : lin t p l (k + 1) = (a * t, sx t p b, r) := by
  rw [lin_succ, hx, hc, linS, if_pos (by simp [hb])]; rfl
theorem lin_oe {t p a b r : Int} {l : List UInt8} {k : Nat} (hx : lin t p l k = (a, b, r)) (hc : l.getD k 0 = 111) (hb : ¬ b % 2 = 1) : lin t p l (k + 1) = (a * t, sx t p (b + a), r + 2 ^ k) := by
  rw [lin_succ, hx, hc, linS, if_neg (by simp [hb])]; rfl
theorem lin_eo {t p a b r : Int} {l : List UInt8} {k : Nat} (hx : lin t p l k = (a, b, r)) (hc : l.getD k 0 = 101) (hb : b % 2 = 1) : lin t p l (k + 1) = (a, sx t p (b + a), r + 2 ^ k) := by
  rw [lin_succ, hx, hc, linS, if_neg (by simp [hb])]; rfl
theorem lin_ee {t p a b r : Int} {l : List UInt8} {k : Nat} (hx : lin t p l k = (a, b, r)) (hc : l.getD k 0 = 101) (hb : ¬ b % 2 = 1) : lin t p l (k + 1) = (a, sx t p b, r) := by
  rw [lin_succ, hx, hc, linS, if_pos (by simp [hb])]; rfl
theorem getD_byte {s : ByteArray} {k : Nat} (hk : k < s.size) : s.data.toList.getD k 0 = s[k] := by
  rw [List.getD_eq_getElem?_getD, List.getElem?_eq_getElem (by simpa using hk)]; rfl
/-- The numbers of a word are small. -/
structure Small (t p a b r : Int) : Prop where
  a0 : 0 < a
  a1 : a ≤ 205891132094649
  b0 : -1100000000000000 ≤ b
  b1 : b ≤ 1100000000000000
  r0 : 0 ≤ r
  r1 : r ≤ 32768
  ao : a % 2 = 1
theorem lin_small {t p a b r : Int} (hg : goodB t p = true) {l : List UInt8} (hl : Signs l) {k : Nat} (hk : k ≤ l.length) (hk' : k ≤ 15) (hx : lin t p l k = (a, b, r)) : Small t p a b r := by
  have h1 := lin_a hg l hk'
  have h2 := lin_b hg hl hk hk'
  have h3 := linOk hg hl hk
  have := (pow2_le hk').1
  rw [hx] at h1 h2
  have h4 := h3.r0
  have h5 := h3.r1
  have h6 := h3.odd
  rw [hx] at h4 h5 h6
  dsimp only at h1 h2 h4 h5 h6
  exact ⟨h1.1, h1.2, h2.1, h2.2, h4, by omega, h6⟩

theorem iterPos_of {w : World} {k : Nat} {s : ByteArray} {pos : Nat} (h : w.heap[k]? = some (.stringIter s pos)) : w.iterPos k = pos := by
  unfold World.iterPos; rw [h]
theorem iter_last (w : World) (o : Obj) (s : ByteArray) (pos : Nat) : ((w.alloc o).iter s pos).heap[w.heap.size + 1]? = some (.stringIter s pos) := by
  have := World.iter_heap (w.alloc o) s pos
  rwa [show (w.alloc o).heap.size = w.heap.size + 1 by simp] at this
theorem cell_iterAt (w : World) (k j o : Nat) (s : ByteArray) (pos : Nat) (h : j ≠ k) : (w.iterAt k s pos).cell? ⟨j, o, none⟩ = w.cell? ⟨j, o, none⟩ := World.cell?_of_block (Lib.iterAt_other w k j s pos h)
/-- Three integers are handed back. -/
theorem ret_three {a b c a' b' c' : Int} (h : (a, b, c) = (a', b', c')) : Ending.returned (.tuple #[.int .i64 a', .int .i64 b', .int .i64 c']) = .returned (.tuple #[.int .i64 a, .int .i64 b, .int .i64 c]) := by
  obtain ⟨rfl, rfl, rfl⟩ := by simpa using h
  rfl

set_option maxRecDepth 100000 in
set_option maxHeartbeats 4000000 in
theorem woLine_any (t p : Int) (s : ByteArray) (w : World) (hg : goodB t p = true) (hw : wordB s = true) :
    Calls Tryd.prog 36 #[.agg #[.int .i64 t, .int .i64 p], .string s] w fun e w' =>
      e = .returned (.tuple #[.int .i64 (lin t p s.data.toList s.size).1, .int .i64 (lin t p s.data.toList s.size).2.1, .int .i64 (lin t p s.data.toList s.size).2.2]) ∧ Below w.heap.size w w' := by
  obtain ⟨g1, g2, g3, g4, g5, g6⟩ := goodB_iff.1 hg
  obtain ⟨hz, hl⟩ := wordB_iff.1 hw
  have HG := Lib.hid hg
  have HL := Lib.hid hl
  have HZ := Lib.hid hz
  have H3 := Lib.hid g3
  have H6 := Lib.hid g6
  have hz1 : (s.size : Int) ≤ 15 := by omega
  clear hg hl hw g3 g6 hz
  go_enter Tryd.func36, Tryd.ntmps36
  go_wp2
  go_loopw [7, 8, 9] (fun x y z wr => ∃ (pos : Nat) (a b r : Int), lin t p s.data.toList pos = (a, b, r) ∧ pos ≤ s.size ∧ x = .int .i64 a ∧ y = .int .i64 b ∧ z = .int .i64 r ∧ wr.heap[w.heap.size + 1]? = some (.stringIter s pos) ∧ wr.cell? ⟨w.heap.size, 0, none⟩ = some (.int .i64 t) ∧ wr.cell? ⟨w.heap.size, 1, none⟩ = some (.int .i64 p) ∧ Below w.heap.size w wr) (fun _ _ _ wr => s.size - wr.iterPos (w.heap.size + 1))
  case atStart => exact ⟨0, 1, 0, 0, rfl, Nat.zero_le _, rfl, rfl, rfl, iter_last _ _ _ _, by simp [World.iter], by simp [World.iter], ((Below.refl _ _).alloc (Nat.le_refl _) _).alloc (by simp) _⟩
  case round =>
    obtain ⟨pos, a, b, r, hx, hp, rfl, rfl, rfl, hit, hc0, hc1, hbel⟩ := hrel
    have HIT := Lib.hid hit
    have HB := Lib.hid hbel
    by_cases hlt : pos < s.size
    · have q0 : (wr.iterAt (w.heap.size + 1) s (pos + 1)).cell? ⟨w.heap.size, 0, none⟩ = some (.int .i64 t) := (cell_iterAt _ _ _ _ _ _ (by omega)).trans hc0
      have q1 : (wr.iterAt (w.heap.size + 1) s (pos + 1)).cell? ⟨w.heap.size, 1, none⟩ = some (.int .i64 p) := (cell_iterAt _ _ _ _ _ _ (by omega)).trans hc1
      have HQ0 := Lib.hid q0
      have HQ1 := Lib.hid q1
      have SM := lin_small HG.out HL.out (k := pos) (by simpa using hp) (by have := HZ.out; omega) hx
      have hpos : pos ≤ 15 := by have := HZ.out; omega
      have hpos1 : (pos : Int) ≤ 15 := by omega
      obtain ⟨pw1, pw0⟩ := pow2_le (k := pos) hpos
      have hgd := getD_byte hlt
      have hsg := HL.out s[pos] (List.getElem_mem (l := s.data.toList) (n := pos) (by simpa using hlt))
      clear hit hbel hc0 hc1
      by_cases hc : s[pos] = 111
      · have n1 : s[pos].toNat = 111 := by rw [hc]; rfl
        rw [hc] at hgd
        have HGD := Lib.hid hgd
        have hnx : ∀ ty, (Instr.next (.pointer (some ⟨w.heap.size + 1, 0, none⟩)) true ty).run Tryd.prog wr = _ := fun ty => Lib.run_next_ascii_at wr _ s pos ty HIT.out hlt (by omega)
        clear hgd hsg hc
        by_cases hb : b % 2 = 1
        · have hb2 : b % 2 = 1 := hb
          have HX := Lib.hid (lin_oo hx HGD.out hb)
          have HM : Hid (∀ w, Calls Tryd.prog 73 #[.int .i64 b, .int .i64 2] w fun e w' => e = .returned (.int .i64 1) ∧ w = w') := Lib.hid fun w => by
            have := l1Mod_any b 2 w (by omega) (by omega) (by have := SM.b0; omega) (by have := SM.b1; omega)
            rw [hb2] at this
            exact this
          have hpar : b % 2 = 1 := by have := SM.ao; omega
          have HSX : Hid ((t * b + p).tdiv 2 = sx t p b) := Lib.hid (sxo H3.out H6.out (by rw [even_tmod]; simp [oddB, hpar]))
          have hm1 := mul_bound (t := t) (n := b) (B := 1400000000000000) g1 g2 (by have := SM.b0; have := SM.a0; omega) (by have := SM.b1; have := SM.a1; omega)
          have hm2 := mul_bound (t := t) (n := a) (B := 300000000000000) g1 g2 (by have := SM.a0; omega) (by have := SM.a1; omega)
          rw [Int.mul_comm t a] at hm2
          clear hpar
          obtain ⟨a0, a1, b0, b1, r0, r1, _⟩ := SM
          clear hx hb hb2
          go_wp2_with (go_at_call 73; refine (HM.out _).mono ?_; rintro e w' ⟨rfl, rfl⟩)
          refine ⟨⟨pos + 1, _, _, _, HX.out, hlt, ?_, ?_, ?_, Lib.iterAt_heap _ _ _ _ _ HIT.out, HQ0.out, HQ1.out, Lib.below_iterAt HB.out (by omega) _ _⟩, ?_⟩
          · rfl
          · rw [HSX.out]
          · first | rfl | rw [HPW.out]
          · rw [iterPos_of HIT.out, iterPos_of (Lib.iterAt_heap _ _ _ _ _ HIT.out)]; omega
        · have hb2 : b % 2 = 0 := by omega
          have HX := Lib.hid (lin_oe hx HGD.out hb)
          have HM : Hid (∀ w, Calls Tryd.prog 73 #[.int .i64 b, .int .i64 2] w fun e w' => e = .returned (.int .i64 0) ∧ w = w') := Lib.hid fun w => by
            have := l1Mod_any b 2 w (by omega) (by omega) (by have := SM.b0; omega) (by have := SM.b1; omega)
            rw [hb2] at this
            exact this
          have hpar : (b + a) % 2 = 1 := by have := SM.ao; omega
          have HSX : Hid ((t * (b + a) + p).tdiv 2 = sx t p (b + a)) := Lib.hid (sxo H3.out H6.out (by rw [even_tmod]; simp [oddB, hpar]))
          have hm1 := mul_bound (t := t) (n := (b + a)) (B := 1400000000000000) g1 g2 (by have := SM.b0; have := SM.a0; omega) (by have := SM.b1; have := SM.a1; omega)
          have hm2 := mul_bound (t := t) (n := a) (B := 300000000000000) g1 g2 (by have := SM.a0; omega) (by have := SM.a1; omega)
          rw [Int.mul_comm t a] at hm2
          clear hpar
          obtain ⟨a0, a1, b0, b1, r0, r1, _⟩ := SM
          clear hx hb hb2
          go_wp2_with (go_at_call 73; refine (HM.out _).mono ?_; rintro e w' ⟨rfl, rfl⟩)
          refine ⟨⟨pos + 1, _, _, _, HX.out, hlt, ?_, ?_, ?_, Lib.iterAt_heap _ _ _ _ _ HIT.out, HQ0.out, HQ1.out, Lib.below_iterAt HB.out (by omega) _ _⟩, ?_⟩
          · rfl
          · rw [HSX.out]
          · first | rfl | rw [HPW.out]
          · rw [iterPos_of HIT.out, iterPos_of (Lib.iterAt_heap _ _ _ _ _ HIT.out)]; omega
      · have hc2 : s[pos] = 101 := hsg.resolve_left hc
        have n1 : s[pos].toNat = 101 := by rw [hc2]; rfl
        rw [hc2] at hgd
        have HGD := Lib.hid hgd
        have hnx : ∀ ty, (Instr.next (.pointer (some ⟨w.heap.size + 1, 0, none⟩)) true ty).run Tryd.prog wr = _ := fun ty => Lib.run_next_ascii_at wr _ s pos ty HIT.out hlt (by omega)
        clear hgd hsg hc hc2
        by_cases hb : b % 2 = 1
        · have hb2 : b % 2 = 1 := hb
          have HX := Lib.hid (lin_eo hx HGD.out hb)
          have HM : Hid (∀ w, Calls Tryd.prog 73 #[.int .i64 b, .int .i64 2] w fun e w' => e = .returned (.int .i64 1) ∧ w = w') := Lib.hid fun w => by
            have := l1Mod_any b 2 w (by omega) (by omega) (by have := SM.b0; omega) (by have := SM.b1; omega)
            rw [hb2] at this
            exact this
          have hpar : (b + a) % 2 = 0 := by have := SM.ao; omega
          have HSX : Hid ((b + a).tdiv 2 = sx t p (b + a)) := Lib.hid (sxe (by rw [even_tmod]; simp [oddB, hpar]))
          clear hpar
          obtain ⟨a0, a1, b0, b1, r0, r1, _⟩ := SM
          clear hx hb hb2
          go_wp2_with (go_at_call 73; refine (HM.out _).mono ?_; rintro e w' ⟨rfl, rfl⟩)
          refine ⟨⟨pos + 1, _, _, _, HX.out, hlt, ?_, ?_, ?_, Lib.iterAt_heap _ _ _ _ _ HIT.out, HQ0.out, HQ1.out, Lib.below_iterAt HB.out (by omega) _ _⟩, ?_⟩
          · rfl
          · rw [HSX.out]
          · first | rfl | rw [HPW.out]
          · rw [iterPos_of HIT.out, iterPos_of (Lib.iterAt_heap _ _ _ _ _ HIT.out)]; omega
        · have hb2 : b % 2 = 0 := by omega
          have HX := Lib.hid (lin_ee hx HGD.out hb)
          have HM : Hid (∀ w, Calls Tryd.prog 73 #[.int .i64 b, .int .i64 2] w fun e w' => e = .returned (.int .i64 0) ∧ w = w') := Lib.hid fun w => by
            have := l1Mod_any b 2 w (by omega) (by omega) (by have := SM.b0; omega) (by have := SM.b1; omega)
            rw [hb2] at this
            exact this
          have hpar : b % 2 = 0 := by have := SM.ao; omega
          have HSX : Hid (b.tdiv 2 = sx t p b) := Lib.hid (sxe (by rw [even_tmod]; simp [oddB, hpar]))
          clear hpar
          obtain ⟨a0, a1, b0, b1, r0, r1, _⟩ := SM
          clear hx hb hb2
          go_wp2_with (go_at_call 73; refine (HM.out _).mono ?_; rintro e w' ⟨rfl, rfl⟩)
          refine ⟨⟨pos + 1, _, _, _, HX.out, hlt, ?_, ?_, ?_, Lib.iterAt_heap _ _ _ _ _ HIT.out, HQ0.out, HQ1.out, Lib.below_iterAt HB.out (by omega) _ _⟩, ?_⟩
          · rfl
          · rw [HSX.out]
          · first | rfl | rw [HPW.out]
          · rw [iterPos_of HIT.out, iterPos_of (Lib.iterAt_heap _ _ _ _ _ HIT.out)]; omega
    · obtain rfl : pos = s.size := by omega
      have HX := Lib.hid hx
      have hnx : ∀ ty, (Instr.next (.pointer (some ⟨w.heap.size + 1, 0, none⟩)) true ty).run Tryd.prog wr = _ := fun ty => Lib.run_next_end_at wr _ s s.size ty HIT.out hlt
      clear hit hx hbel hc0 hc1
      go_wp2
      go_ret3
      exact ⟨ret_three HX.out, HB.out⟩
end Go.Proofs.YtgobjobppajkbaaDoor
