/-
  WHAT A WORD DOES, IN THE PROGRAM: 'kinOf'.
-/
import Derived.Test.YtgobjobppajkbaaDoorLine
import Derived.Test.YtgobjobppajkbaaDoorAsked
import Derived.Test.YtgobjobppajkbaaDoorBig
import Derived.Outline
import Derived.RegionTactic
import Derived.ChangeAlike
namespace Go.Proofs.YtgobjobppajkbaaDoor
open Go.RowKit
set_option linter.unusedVariables false

/-- A map in block m, three integers in block k. -/
structure MapK (W : World) (m k : Nat) (t p x y z : Int) : Prop where
  m0 : W.cell? ⟨m, 0, none⟩ = some (.int .i64 t)
  m1 : W.cell? ⟨m, 1, none⟩ = some (.int .i64 p)
  k0 : W.cell? ⟨k, 0, none⟩ = some (.int .i64 x)
  k1 : W.cell? ⟨k, 1, none⟩ = some (.int .i64 y)
  k2 : W.cell? ⟨k, 2, none⟩ = some (.int .i64 z)
  f0 : W.frozen? ⟨k, 0, none⟩ = false
  f1 : W.frozen? ⟨k, 1, none⟩ = false
  f2 : W.frozen? ⟨k, 2, none⟩ = false
  lt : m < W.heap.size
  ltk : k < W.heap.size
theorem MapK.below {W W' : World} {m k B : Nat} {t p x y z : Int} (h : MapK W m k t p x y z) (hb : Below B W W') (hm : m < B) (hk : k < B) : MapK W' m k t p x y z :=
  ⟨(hb.cell (p := ⟨m, 0, none⟩) hm).trans h.m0, (hb.cell (p := ⟨m, 1, none⟩) hm).trans h.m1, (hb.cell (p := ⟨k, 0, none⟩) hk).trans h.k0, (hb.cell (p := ⟨k, 1, none⟩) hk).trans h.k1, (hb.cell (p := ⟨k, 2, none⟩) hk).trans h.k2,
    (hb.frozen (p := ⟨k, 0, none⟩) hk).trans h.f0, (hb.frozen (p := ⟨k, 1, none⟩) hk).trans h.f1, (hb.frozen (p := ⟨k, 2, none⟩) hk).trans h.f2, Nat.lt_of_lt_of_le h.lt hb.size, Nat.lt_of_lt_of_le h.ltk hb.size⟩
theorem mapK_start (w : World) (t p x y z : Int) (T T' : TypeId) : MapK ((w.alloc (.cells #[.int .i64 t, .int .i64 p] T)).alloc (.cells #[.int .i64 x, .int .i64 y, .int .i64 z] T')) w.heap.size (w.heap.size + 1) t p x y z := by
  refine ⟨?_, ?_, ?_, ?_, ?_, ?_, ?_, ?_, by simp; omega, by simp⟩ <;> go_simp

theorem MapK.set0 {W : World} {m k : Nat} {t p x y z : Int} (h : MapK W m k t p x y z) (hne : m ≠ k) (v : Int) : MapK (W.setCell ⟨k, 0, none⟩ (.int .i64 v)) m k t p v y z := by
  obtain ⟨m0, m1, k0, k1, k2, f0, f1, f2, l1, l2⟩ := h
  refine ⟨?_, ?_, ?_, ?_, ?_, ?_, ?_, ?_, by simpa using l1, by simpa using l2⟩ <;> go_simp
theorem MapK.set1 {W : World} {m k : Nat} {t p x y z : Int} (h : MapK W m k t p x y z) (hne : m ≠ k) (v : Int) : MapK (W.setCell ⟨k, 1, none⟩ (.int .i64 v)) m k t p x v z := by
  obtain ⟨m0, m1, k0, k1, k2, f0, f1, f2, l1, l2⟩ := h
  refine ⟨?_, ?_, ?_, ?_, ?_, ?_, ?_, ?_, by simpa using l1, by simpa using l2⟩ <;> go_simp
theorem MapK.set2 {W : World} {m k : Nat} {t p x y z : Int} (h : MapK W m k t p x y z) (hne : m ≠ k) (v : Int) : MapK (W.setCell ⟨k, 2, none⟩ (.int .i64 v)) m k t p x y v := by
  obtain ⟨m0, m1, k0, k1, k2, f0, f1, f2, l1, l2⟩ := h
  refine ⟨?_, ?_, ?_, ?_, ?_, ?_, ?_, ?_, by simpa using l1, by simpa using l2⟩ <;> go_simp
theorem MapK.drew {W : World} {m k : Nat} {t p x y z : Int} (h : MapK W m k t p x y z) : MapK W.drew m k t p x y z := by
  obtain ⟨m0, m1, k0, k1, k2, f0, f1, f2, l1, l2⟩ := h
  refine ⟨?_, ?_, ?_, ?_, ?_, ?_, ?_, ?_, by simpa using l1, by simpa using l2⟩ <;> go_simp
theorem walk_at (t p : Int) (x : Value) (w : World) : (Instr.field 143 (.agg #[.int .i64 t, .int .i64 p, x]) 1).run Tryd.prog w = .ok x w := by kernel_rfl
theorem MapK.iterAt {W : World} {m k : Nat} {t p x y z : Int} {it : Nat} {s : ByteArray} {pos : Nat} (h : MapK W m k t p x y z) (h1 : m ≠ it) (h2 : k ≠ it) : MapK (W.iterAt it s pos) m k t p x y z := by
  have e1 := Lib.iterAt_other W it m s pos h1
  have e2 := Lib.iterAt_other W it k s pos h2
  obtain ⟨m0, m1, k0, k1, k2, f0, f1, f2, l1, l2⟩ := h
  exact ⟨(World.cell?_of_block (a := ⟨m, 0, none⟩) e1).trans m0, (World.cell?_of_block (a := ⟨m, 1, none⟩) e1).trans m1, (World.cell?_of_block (a := ⟨k, 0, none⟩) e2).trans k0, (World.cell?_of_block (a := ⟨k, 1, none⟩) e2).trans k1, (World.cell?_of_block (a := ⟨k, 2, none⟩) e2).trans k2,
    (World.frozen?_of_block (a := ⟨k, 0, none⟩) e2).trans f0, (World.frozen?_of_block (a := ⟨k, 1, none⟩) e2).trans f1, (World.frozen?_of_block (a := ⟨k, 2, none⟩) e2).trans f2, by rw [Lib.iterAt_size]; exact l1, by rw [Lib.iterAt_size]; exact l2⟩
/-- An iterator's block is kept. -/
theorem iter_set {W : World} {k it : Nat} {o : Nat} {v : Value} {x : Obj} (h : W.heap[it]? = some x) (hne : it ≠ k) : (W.setCell ⟨k, o, none⟩ v).heap[it]? = some x := by
  rw [Below.heap_setCell _ _ _ _ hne]; exact h

theorem iter_drew {W : World} {it : Nat} {x : Obj} (h : W.heap[it]? = some x) : W.drew.heap[it]? = some x := h
theorem mapK_at {w2 : World} {m k : Nat} {t p x y z : Int} {s : ByteArray} {T : TypeId} (h : MapK w2 m k t p x y z) : MapK ((w2.alloc (.cells #[.int .i64 0, .int .i64 1, .int .i64 0] T)).iter s 0) m w2.heap.size t p 0 1 0 := by
  have hb : Below w2.heap.size w2 ((w2.alloc (.cells #[.int .i64 0, .int .i64 1, .int .i64 0] T)).iter s 0) := ((Below.refl _ _).alloc (Nat.le_refl _) _).alloc (by simp) _
  obtain ⟨m0, m1, _, _, _, _, _, _, l1, l2⟩ := h
  refine ⟨(hb.cell (p := ⟨m, 0, none⟩) l1).trans m0, (hb.cell (p := ⟨m, 1, none⟩) l1).trans m1, ?_, ?_, ?_, ?_, ?_, ?_, by simp [World.iter]; omega, by simp [World.iter]; omega⟩ <;> (simp only [World.iter]; go_simp)

theorem kin_end {B : Nat} {w2 wi Wx w3 : World} {s : ByteArray} {pos : Nat} {v : Value} (h3 : Below Wx.heap.size Wx w3) (h1 : Below B w2 wi) (h2 : Below B wi Wx) (hit : Wx.heap[B + 1]? = some (.stringIter s pos)) :
    Below B w2 (w3.setCell ⟨B, 2, none⟩ v) ∧ (w3.setCell ⟨B, 2, none⟩ v).heap[B + 1]? = some (.stringIter s pos) := by
  have hlt : B + 1 < Wx.heap.size := (Array.getElem?_eq_some_iff.1 hit).1
  exact ⟨(h1.trans (h2.trans (h3.mono (by omega)))).setCell (Nat.le_refl _) _, iter_set (by rw [h3.block _ hlt]; exact hit) (by omega)⟩
theorem three_int {a b c : Int} {x : Int × Int × Int} (h : x = (a, b, c)) : Ending.returned (.tuple #[.agg #[.int .i64 c, .int .i64 a, .int .i64 b], .bool true]) = .returned (.tuple #[.agg #[.int .i64 x.2.2, .int .i64 x.1, .int .i64 x.2.1], .bool true]) := by subst h; rfl

set_option maxRecDepth 100000 in
set_option maxHeartbeats 8000000 in
theorem kinOf_yes (t p : Int) (s : ByteArray) (w : World) (hg : goodB t p = true) (hw : wordB s = true) (htab : Tab w) :
    Calls Tryd.prog 79 #[.agg #[.int .i64 t, .int .i64 p], .string s] w fun e w' =>
      e = .returned (.tuple #[.agg #[.int .i64 (lin t p s.data.toList s.size).2.2, .int .i64 (lin t p s.data.toList s.size).1, .int .i64 (lin t p s.data.toList s.size).2.1], .bool true]) ∧ Below w.heap.size w w' := by
  obtain ⟨g1, g2, g3, g4, g5, g6⟩ := goodB_iff.1 hg
  obtain ⟨hz, hl⟩ := wordB_iff.1 hw
  have HG := Lib.hid hg
  have HW := Lib.hid hw
  have HL := Lib.hid hl
  have HZ := Lib.hid hz
  have H3 := Lib.hid g3
  have H6 := Lib.hid g6
  have HT := Lib.hid htab
  have hz1 : (s.size : Int) ≤ 15 := by omega
  have HM := Lib.hid (fun w => isMap_any t p w)
  have HI := Lib.hid (fun w => isWord_any s w)
  rw [hg] at HM
  rw [hw] at HI
  clear hg hl hw g3 g6 hz htab
  go_enter Tryd.func79, Tryd.ntmps79
  go_wp2_with fail
  refine (HM.out _).mono ?_
  rintro e w1 ⟨rfl, hb1⟩
  have hK1 := (mapK_start w t p 0 0 0 _ _).below hb1 (by simp; omega) (by simp)
  have hB1 : Below w.heap.size w w1 := (((Below.refl _ w).alloc (Nat.le_refl _) _).alloc (by simp) _).trans (hb1.mono (by simp; omega))
  have HK1 := Lib.hid hK1
  have HB1 := Lib.hid hB1
  clear hK1 hB1 hb1
  go_wp2_with fail
  refine (HI.out _).mono ?_
  rintro e w2 ⟨rfl, hb2⟩
  have hK2 := HK1.out.below hb2 HK1.out.lt HK1.out.ltk
  have HK2 := Lib.hid hK2
  have HB2 := Lib.hid (HB1.out.trans (hb2.mono HB1.out.size))
  clear hK2 hb2 HK1 HB1
  have hz2 := HK2.out.ltk
  go_wp2_with fail
  go_loopw [] (fun wr => ∃ (pos : Nat) (a b r : Int), lin t p s.data.toList pos = (a, b, r) ∧ pos ≤ s.size ∧ wr.heap[w2.heap.size + 1]? = some (.stringIter s pos) ∧ MapK wr w.heap.size w2.heap.size t p r a b ∧ Below w2.heap.size w2 wr) (fun wr => s.size - wr.iterPos (w2.heap.size + 1))
  case atStart => exact ⟨0, 1, 0, 0, rfl, Nat.zero_le _, iter_last _ _ _ _, mapK_at HK2.out, ((Below.refl _ _).alloc (Nat.le_refl _) _).alloc (by simp) _⟩
  case round =>
    obtain ⟨pos, a, b, r, hx, hp, hit, hk, hbel⟩ := hrel
    by_cases hlt : pos < s.size
    · have SM := lin_small HG.out HL.out (k := pos) (by simpa using hp) (by have := HZ.out; omega) hx
      have hpos : pos ≤ 15 := by have := HZ.out; omega
      have hpos1 : (pos : Int) ≤ 15 := by omega
      obtain ⟨pw1, pw0⟩ := pow2_le (k := pos) hpos
      have hgd := getD_byte hlt
      have hsg := HL.out s[pos] (List.getElem_mem (l := s.data.toList) (n := pos) (by simpa using hlt))
      obtain ⟨wi, hwi⟩ : ∃ wi, wi = wr.iterAt (w2.heap.size + 1) s (pos + 1) := ⟨_, rfl⟩
      have hne : w.heap.size ≠ w2.heap.size := by have := HB2.out.size; omega
      have HIT : Hid (wi.heap[w2.heap.size + 1]? = some (.stringIter s (pos + 1))) := Lib.hid (by rw [hwi]; exact Lib.iterAt_heap _ _ _ _ _ hit)
      have HB : Hid (Below w2.heap.size w2 wi) := Lib.hid (by rw [hwi]; exact Lib.below_iterAt hbel (by omega) _ _)
      have HK : Hid (MapK wi w.heap.size w2.heap.size t p r a b) := Lib.hid (by rw [hwi]; exact hk.iterAt (by omega) (by omega))
      have HTW : Hid (Tab wi) := Lib.hid (tab_below HT.out (HB2.out.trans (HB.out.mono HB2.out.size)) (Nat.le_refl _))
      have qt := tab_at HTW.out hpos
      have hnx0 : s[pos].toNat < 128 → ∀ ty, (Instr.next (.pointer (some ⟨w2.heap.size + 1, 0, none⟩)) true ty).run Tryd.prog wr = _ := fun h ty => Lib.run_next_ascii_at wr _ s pos ty hit hlt h
      rw [← hwi] at hnx0
      have HPOS := Lib.hid (iterPos_of hit)
      obtain ⟨q0, q1, q2, q3, q4, q5, q6, q7, q8, q9⟩ := HK.out
      clear hit hbel hk hwi
      by_cases hc : s[pos] = 111
      · have n1 : s[pos].toNat = 111 := by rw [hc]; rfl
        rw [hc] at hgd
        have HGD := Lib.hid hgd
        have hnx := hnx0 (by omega)
        clear hgd hsg hc hnx0
        by_cases hb : b % 2 = 1
        · have hob : oddB b = true := by simp [oddB]; omega
          have HX := Lib.hid (lin_oo hx HGD.out hb)
          obtain ⟨a0, a1, b0, b1, r0, r1, _⟩ := SM
          have HSS := Lib.hid (fun w => shortStep_big t p b w HG.out (by omega) (by omega))
          have hm2 := mul_bound (t := t) (n := a) (B := 300000000000000) g1 g2 (by omega) (by omega)
          rw [Int.mul_comm t a] at hm2
          have hfl := walk_at t p (.int .i64 (sx t p b))
          clear hx hb
          go_wp2_with (go_at_call 76; refine (isOdd_any _ _).mono ?_; rintro e w' ⟨rfl, rfl⟩)
          refine (HSS.out _).mono ?_
          rintro e w3 ⟨rfl, hb3⟩
          have hk3 := (HK.out.set1 hne _).below hb3 ((HK.out.set1 hne _)).lt ((HK.out.set1 hne _)).ltk
          have HK3 := Lib.hid hk3
          obtain ⟨q0, q1, q2, q3, q4, q5, q6, q7, q8, q9⟩ := hk3
          have HB3 := Lib.hid hb3
          clear hb3
          go_wp2_with fail
          have hend := kin_end (B := w2.heap.size) (v := .int .i64 (sx t p b)) HB3.out HB.out (by repeat' (first | exact Below.refl _ _ | refine Below.drew ?_ | refine Below.setCell ?_ ?_ _ | exact Nat.le_refl _)) (by repeat' (first | exact HIT.out | refine iter_drew ?_ | refine iter_set ?_ (by omega)))
          refine ⟨⟨pos + 1, _, _, _, HX.out, hlt, hend.2, HK3.out.set2 hne _, hend.1⟩, ?_⟩
          rw [HPOS.out, iterPos_of hend.2]
          omega
        · have hob : oddB b = false := by simp [oddB]; omega
          have HX := Lib.hid (lin_oe hx HGD.out hb)
          obtain ⟨a0, a1, b0, b1, r0, r1, _⟩ := SM
          have HSS := Lib.hid (fun w => shortStep_big t p (b + a) w HG.out (by omega) (by omega))
          have hm2 := mul_bound (t := t) (n := a) (B := 300000000000000) g1 g2 (by omega) (by omega)
          rw [Int.mul_comm t a] at hm2
          have hfl := walk_at t p (.int .i64 (sx t p (b + a)))
          clear hx hb
          go_wp2_with (go_at_call 76; refine (isOdd_any _ _).mono ?_; rintro e w' ⟨rfl, rfl⟩)
          go_region
          go_wp2_with fail
          refine (HSS.out _).mono ?_
          rintro e w3 ⟨rfl, hb3⟩
          have hk3 := (((HK.out.set0 hne _).drew.set2 hne _).set1 hne _).below hb3 ((((HK.out.set0 hne _).drew.set2 hne _).set1 hne _)).lt ((((HK.out.set0 hne _).drew.set2 hne _).set1 hne _)).ltk
          have HK3 := Lib.hid hk3
          obtain ⟨q0, q1, q2, q3, q4, q5, q6, q7, q8, q9⟩ := hk3
          have HB3 := Lib.hid hb3
          clear hb3
          go_wp2_with fail
          have hend := kin_end (B := w2.heap.size) (v := .int .i64 (sx t p (b + a))) HB3.out HB.out (by repeat' (first | exact Below.refl _ _ | refine Below.drew ?_ | refine Below.setCell ?_ ?_ _ | exact Nat.le_refl _)) (by repeat' (first | exact HIT.out | refine iter_drew ?_ | refine iter_set ?_ (by omega)))
          refine ⟨⟨pos + 1, _, _, _, HX.out, hlt, hend.2, HK3.out.set2 hne _, hend.1⟩, ?_⟩
          rw [HPOS.out, iterPos_of hend.2]
          omega
      · have hc2 : s[pos] = 101 := hsg.resolve_left hc
        have n1 : s[pos].toNat = 101 := by rw [hc2]; rfl
        rw [hc2] at hgd
        have HGD := Lib.hid hgd
        have hnx := hnx0 (by omega)
        clear hgd hsg hc hc2 hnx0
        by_cases hb : b % 2 = 1
        · have hob : oddB b = true := by simp [oddB]; omega
          have HX := Lib.hid (lin_eo hx HGD.out hb)
          obtain ⟨a0, a1, b0, b1, r0, r1, _⟩ := SM
          have HSS := Lib.hid (fun w => shortStep_big t p (b + a) w HG.out (by omega) (by omega))
          have hfl := walk_at t p (.int .i64 (sx t p (b + a)))
          clear hx hb
          go_wp2_with (go_at_call 76; refine (isOdd_any _ _).mono ?_; rintro e w' ⟨rfl, rfl⟩)
          go_region
          go_wp2_with fail
          refine (HSS.out _).mono ?_
          rintro e w3 ⟨rfl, hb3⟩
          have hk3 := ((HK.out.set0 hne _).drew.set2 hne _).below hb3 (((HK.out.set0 hne _).drew.set2 hne _)).lt (((HK.out.set0 hne _).drew.set2 hne _)).ltk
          have HK3 := Lib.hid hk3
          obtain ⟨q0, q1, q2, q3, q4, q5, q6, q7, q8, q9⟩ := hk3
          have HB3 := Lib.hid hb3
          clear hb3
          go_wp2_with fail
          have hend := kin_end (B := w2.heap.size) (v := .int .i64 (sx t p (b + a))) HB3.out HB.out (by repeat' (first | exact Below.refl _ _ | refine Below.drew ?_ | refine Below.setCell ?_ ?_ _ | exact Nat.le_refl _)) (by repeat' (first | exact HIT.out | refine iter_drew ?_ | refine iter_set ?_ (by omega)))
          refine ⟨⟨pos + 1, _, _, _, HX.out, hlt, hend.2, HK3.out.set2 hne _, hend.1⟩, ?_⟩
          rw [HPOS.out, iterPos_of hend.2]
          omega
        · have hob : oddB b = false := by simp [oddB]; omega
          have HX := Lib.hid (lin_ee hx HGD.out hb)
          obtain ⟨a0, a1, b0, b1, r0, r1, _⟩ := SM
          have HSS := Lib.hid (fun w => shortStep_big t p b w HG.out (by omega) (by omega))
          have hfl := walk_at t p (.int .i64 (sx t p b))
          clear hx hb
          go_wp2_with (go_at_call 76; refine (isOdd_any _ _).mono ?_; rintro e w' ⟨rfl, rfl⟩)
          refine (HSS.out _).mono ?_
          rintro e w3 ⟨rfl, hb3⟩
          have hk3 := HK.out.below hb3 (HK.out).lt (HK.out).ltk
          have HK3 := Lib.hid hk3
          obtain ⟨q0, q1, q2, q3, q4, q5, q6, q7, q8, q9⟩ := hk3
          have HB3 := Lib.hid hb3
          clear hb3
          go_wp2_with fail
          have hend := kin_end (B := w2.heap.size) (v := .int .i64 (sx t p b)) HB3.out HB.out (by repeat' (first | exact Below.refl _ _ | refine Below.drew ?_ | refine Below.setCell ?_ ?_ _ | exact Nat.le_refl _)) (by repeat' (first | exact HIT.out | refine iter_drew ?_ | refine iter_set ?_ (by omega)))
          refine ⟨⟨pos + 1, _, _, _, HX.out, hlt, hend.2, HK3.out.set2 hne _, hend.1⟩, ?_⟩
          rw [HPOS.out, iterPos_of hend.2]
          omega
    · obtain rfl : pos = s.size := by omega
      have HX := Lib.hid hx
      have HK := Lib.hid hk
      have HB := Lib.hid hbel
      have hnx : ∀ ty, (Instr.next (.pointer (some ⟨w2.heap.size + 1, 0, none⟩)) true ty).run Tryd.prog wr = _ := fun ty => Lib.run_next_end_at wr _ s s.size ty hit hlt
      obtain ⟨q0, q1, q2, q3, q4, q5, q6, q7, q8, q9⟩ := hk
      obtain ⟨p0, p1, p2, p3, p4, p5, p6, p7, p8, p9⟩ := HK2.out.below hbel (by omega) hz2
      have hne1 : w.heap.size + 1 ≠ w2.heap.size := by omega
      clear hit hx hbel
      go_wp2
      refine bodyPost_ret (v := .tuple #[.agg #[.int .i64 r, .int .i64 a, .int .i64 b], .bool true]) (by simp [results, Tryd.results79, go_sem, p2, p3, p4]) rfl ⟨three_int HX.out, ?_⟩
      exact (((HB2.out.trans (HB.out.mono HB2.out.size)).setCell (by simp) _).setCell (by simp) _).setCell (by simp) _

set_option maxHeartbeats 1000000 in
theorem kinOf_no (t p : Int) (s : ByteArray) (w : World) (h : (goodB t p && wordB s) = false) :
    Calls Tryd.prog 79 #[.agg #[.int .i64 t, .int .i64 p], .string s] w fun e w' =>
      e = .returned (.tuple #[.agg #[.int .i64 0, .int .i64 0, .int .i64 0], .bool false]) ∧ Below w.heap.size w w' := by
  by_cases hg : goodB t p = true
  · have hw : wordB s = false := by rw [hg] at h; simpa using h
    have HM := Lib.hid (fun w => isMap_any t p w)
    have HI := Lib.hid (fun w => isWord_any s w)
    rw [hg] at HM
    rw [hw] at HI
    clear hg h hw
    go_enter Tryd.func79, Tryd.ntmps79
    go_wp2_with fail
    refine (HM.out _).mono ?_
    rintro e w1 ⟨rfl, hb1⟩
    have HK1 := Lib.hid ((mapK_start w t p 0 0 0 _ _).below hb1 (by simp; omega) (by simp))
    have HB1 : Hid (Below w.heap.size w w1) := Lib.hid ((((Below.refl _ w).alloc (Nat.le_refl _) _).alloc (by simp) _).trans (hb1.mono (by simp; omega)))
    clear hb1
    go_wp2_with fail
    refine (HI.out _).mono ?_
    rintro e w2 ⟨rfl, hb2⟩
    obtain ⟨q0, q1, q2, q3, q4, q5, q6, q7, q8, q9⟩ := HK1.out.below hb2 HK1.out.lt HK1.out.ltk
    have HB2 := Lib.hid (HB1.out.trans (hb2.mono HB1.out.size))
    clear hb2
    go_wp2_with fail
    refine bodyPost_ret (v := .tuple #[.agg #[.int .i64 0, .int .i64 0, .int .i64 0], .bool false]) (by simp [results, Tryd.results79, go_sem, q2, q3, q4]) rfl ⟨rfl, ?_⟩
    exact ((HB2.out.setCell (by simp) _).setCell (by simp) _).setCell (by simp) _
  · have hg' : goodB t p = false := by simpa using hg
    have HM := Lib.hid (fun w => isMap_any t p w)
    rw [hg'] at HM
    clear hg h hg'
    go_enter Tryd.func79, Tryd.ntmps79
    go_wp2_with fail
    refine (HM.out _).mono ?_
    rintro e w1 ⟨rfl, hb1⟩
    obtain ⟨q0, q1, q2, q3, q4, q5, q6, q7, q8, q9⟩ := (mapK_start w t p 0 0 0 _ _).below hb1 (by simp; omega) (by simp)
    have HB1 : Hid (Below w.heap.size w w1) := Lib.hid ((((Below.refl _ w).alloc (Nat.le_refl _) _).alloc (by simp) _).trans (hb1.mono (by simp; omega)))
    clear hb1
    go_wp2_with fail
    refine bodyPost_ret (v := .tuple #[.agg #[.int .i64 0, .int .i64 0, .int .i64 0], .bool false]) (by simp [results, Tryd.results79, go_sem, q2, q3, q4]) rfl ⟨rfl, ?_⟩
    exact ((HB1.out.setCell (by simp) _).setCell (by simp) _).setCell (by simp) _

/-- What a word does to all its numbers: the residue, a and b, and whether there are a map and a word. -/
def knW (t p : Int) (s : ByteArray) : Int × Int × Int := if askW t p s = true then ((lin t p s.data.toList s.size).2.2, (lin t p s.data.toList s.size).1, (lin t p s.data.toList s.size).2.1) else (0, 0, 0)
theorem ret_kin {x y : Int × Int × Int} {a b : Bool} (h : x = y) (h' : a = b) : Ending.returned (.tuple #[.agg #[.int .i64 x.1, .int .i64 x.2.1, .int .i64 x.2.2], .bool a]) = .returned (.tuple #[.agg #[.int .i64 y.1, .int .i64 y.2.1, .int .i64 y.2.2], .bool b]) := by subst h; subst h'; rfl
theorem kinOf_any (t p : Int) (s : ByteArray) (w : World) (htab : Tab w) :
    Calls Tryd.prog 79 #[.agg #[.int .i64 t, .int .i64 p], .string s] w fun e w' =>
      e = .returned (.tuple #[.agg #[.int .i64 (knW t p s).1, .int .i64 (knW t p s).2.1, .int .i64 (knW t p s).2.2], .bool (askW t p s)]) ∧ Below w.heap.size w w' := by
  by_cases h : askW t p s = true
  · obtain ⟨h1, h2⟩ := askW_iff.1 h
    refine (kinOf_yes t p s w h1 h2 htab).mono ?_
    rintro e w' ⟨rfl, hb⟩
    exact ⟨ret_kin (x := (_, _, _)) (by rw [knW, if_pos h]) h.symm, hb⟩
  · have h' : askW t p s = false := by simpa using h
    refine (kinOf_no t p s w h').mono ?_
    rintro e w' ⟨rfl, hb⟩
    exact ⟨ret_kin (x := (_, _, _)) (by rw [knW, if_neg h]) h'.symm, hb⟩
end Go.Proofs.YtgobjobppajkbaaDoor
