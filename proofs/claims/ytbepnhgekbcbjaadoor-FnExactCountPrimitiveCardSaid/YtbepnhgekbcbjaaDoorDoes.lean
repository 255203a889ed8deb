/-
  WHAT A WORD DOES: 'cyDoes' and 'WordDoes' of the model, 'WordDoes' of the program.
-/
import Derived.Test.YtbepnhgekbcbjaaDoorCyW
import Derived.RegionTactic
import Derived.ChangeAlike
namespace Go.Proofs.YtbepnhgekbcbjaaDoor
open Go.RowKit
set_option linter.unusedVariables false

/-- One sign more, case by case. -/
theorem does_o {t p a b d : Int} {s : ByteArray} {k : Nat} (hk : k < s.size) (hx : doesL t p (s.data.toList.take k) = (a, b, d)) (hc : s[k] = 111) : doesL t p (s.data.toList.take (k + 1)) = (t * a, t * b + p * d, d * 2) := by
  have e : s.data.toList.take (k + 1) = s.data.toList.take k ++ [s[k]] := by
    rw [List.take_succ_eq_append_getElem (by simpa using hk)]; rfl
  rw [e, doesL_snoc, hx, hc]; rfl
theorem does_e {t p a b d : Int} {s : ByteArray} {k : Nat} (hk : k < s.size) (hx : doesL t p (s.data.toList.take k) = (a, b, d)) (hc : s[k] = 101) : doesL t p (s.data.toList.take (k + 1)) = (a, b, d * 2) := by
  have e : s.data.toList.take (k + 1) = s.data.toList.take k ++ [s[k]] := by
    rw [List.take_succ_eq_append_getElem (by simpa using hk)]; rfl
  rw [e, doesL_snoc, hx, hc]; rfl
theorem does_small {t p a b d : Int} (hg : goodB t p = true) {s : ByteArray} {k : Nat} (hs : s.size ≤ 10) (hx : doesL t p (s.data.toList.take k) = (a, b, d)) :
    1 ≤ a ∧ a ≤ 3486784401 ∧ 1 ≤ d ∧ d ≤ 1024 ∧ -6973568802 ≤ b ∧ b ≤ 6973568802 := by
  have h := doesL_b hg (l := s.data.toList.take k) (by have := List.length_take_le' k s.data.toList; have : s.data.toList.length = s.size := by simp
                                                       omega)
  rw [hx] at h
  exact h
theorem plus_bound {p d : Int} (h1 : -9 ≤ p) (h2 : p ≤ 9) (h3 : 1 ≤ d) (h4 : d ≤ 1024) : -9216 ≤ p * d ∧ p * d ≤ 9216 := by
  have hp : p = -9 ∨ p = -8 ∨ p = -7 ∨ p = -6 ∨ p = -5 ∨ p = -4 ∨ p = -3 ∨ p = -2 ∨ p = -1 ∨ p = 0 ∨ p = 1 ∨ p = 2 ∨ p = 3 ∨ p = 4 ∨ p = 5 ∨ p = 6 ∨ p = 7 ∨ p = 8 ∨ p = 9 := by omega
  rcases hp with rfl | rfl | rfl | rfl | rfl | rfl | rfl | rfl | rfl | rfl | rfl | rfl | rfl | rfl | rfl | rfl | rfl | rfl | rfl <;> omega

theorem ret_3i {a b c a' b' c' : Int} (h : (a, b, c) = (a', b', c')) : Ending.returned (.tuple #[.int .i64 a', .int .i64 b', .int .i64 c']) = .returned (.tuple #[.int .i64 a, .int .i64 b, .int .i64 c]) := by
  obtain ⟨rfl, rfl, rfl⟩ := by simpa using h
  rfl

set_option maxRecDepth 100000 in
set_option maxHeartbeats 2000000 in
theorem cyDoes_any (t p : Int) (s : ByteArray) (w : World) (hg : goodB t p = true) (hw : turnB s = true) :
    Calls Tryd.prog 45 #[.agg #[.int .i64 t, .int .i64 p], .string s] w fun e w' =>
      e = .returned (.tuple #[.int .i64 (doesL t p s.data.toList).1, .int .i64 (doesL t p s.data.toList).2.1, .int .i64 (doesL t p s.data.toList).2.2]) ∧ Below w.heap.size w w' := by
  obtain ⟨g1, g2, g3, g4, g5, g6⟩ := goodB_iff.1 hg
  obtain ⟨hz0, hz, hl⟩ := turnB_iff.1 hw
  have HG := Lib.hid hg
  have HL := Lib.hid hl
  have HZ := Lib.hid hz
  have hz1 : (s.size : Int) ≤ 10 := by omega
  clear hg hl hw g3 g6 hz hz0
  go_enter Tryd.func45, Tryd.ntmps45
  go_wp2
  go_loop [7, 8, 9, 10] (fun x y z i => ∃ (pos : Nat) (a b d : Int), doesL t p (s.data.toList.take pos) = (a, b, d) ∧ pos ≤ s.size ∧ x = .int .i64 a ∧ y = .int .i64 b ∧ z = .int .i64 d ∧ i = .int .i64 pos) (fun _ _ _ i => s.size - (intOf i).toNat)
  case atStart => exact ⟨0, 1, 0, 1, rfl, Nat.zero_le _, rfl, rfl, rfl, rfl⟩
  case round =>
    obtain ⟨pos, a, b, d, hx, hp, rfl, rfl, rfl, rfl⟩ := hrel
    by_cases hlt : pos < s.size
    · have hix := run_at w s pos hlt
      have hlt2 : (pos : Int) < s.size := by omega
      obtain ⟨a0, a1, d0, d1, b0, b1⟩ := does_small HG.out HZ.out hx
      have hm1 := mul_bound (t := t) (n := a) (B := 3486784401) g1 g2 (by omega) a1
      have hm2 := mul_bound (t := t) (n := b) (B := 6973568802) g1 g2 (by omega) b1
      have hm3 := plus_bound g4 g5 d0 d1
      have hsg := HL.out s[pos] (List.getElem_mem (l := s.data.toList) (n := pos) (by simpa using hlt))
      have hix2 := fun w => run_at w s pos hlt
      by_cases hc : s[pos] = 111
      · have HX := Lib.hid (does_o hlt hx hc)
        have n1 : s[pos].toNat = 111 := by rw [hc]; rfl
        simp only [n1] at hix2
        rw [Int.mul_comm t a] at hm1
        clear hx hc hsg n1 hix
        go_wp2
        exact ⟨⟨pos + 1, _, _, _, HX.out, hlt, by rw [Int.mul_comm], rfl, rfl, by go_num⟩, by simp [intOf]; omega⟩
      · have hc2 : s[pos] = 101 := hsg.resolve_left hc
        have HX := Lib.hid (does_e hlt hx hc2)
        have n1 : s[pos].toNat = 101 := by rw [hc2]; rfl
        simp only [n1] at hix2
        clear hx hc hc2 hsg n1 hix
        go_wp2
        exact ⟨⟨pos + 1, _, _, _, HX.out, hlt, rfl, rfl, rfl, by go_num⟩, by simp [intOf]; omega⟩
    · obtain rfl : pos = s.size := by omega
      have hx' : doesL t p s.data.toList = (a, b, d) := by rw [← hx, List.take_of_length_le (by simp)]
      have HX := Lib.hid hx'
      have hlt2 : ¬ ((s.size : Int) < s.size) := by omega
      clear hx hx'
      go_wp2
      go_ret3
      exact ⟨ret_3i HX.out, (Below.refl _ _).alloc (Nat.le_refl _) _⟩

/-- What WordDoes comes to: p, q, d, and whether there are a map and a word. -/
def wdo (t p : Int) (s : ByteArray) : (Int × Int × Int) × Bool := if goodB t p = true ∧ turnB s = true then (doesL t p s.data.toList, true) else ((0, 0, 0), false)
theorem ret_4 {x : (Int × Int × Int) × Bool} {a b c : Int} {f : Bool} (h : x = ((a, b, c), f)) : Ending.returned (.tuple #[.int .i64 a, .int .i64 b, .int .i64 c, .bool f]) = .returned (.tuple #[.int .i64 x.1.1, .int .i64 x.1.2.1, .int .i64 x.1.2.2, .bool x.2]) := by rw [h]
theorem iter_last2 (w : World) (o : Obj) (s : ByteArray) (pos : Nat) : ((w.alloc o).iter s pos).heap[w.heap.size + 1]? = some (.stringIter s pos) := by
  have := World.iter_heap (w.alloc o) s pos
  rwa [show (w.alloc o).heap.size = w.heap.size + 1 by simp] at this
theorem iterPos_of2 {w : World} {k : Nat} {s : ByteArray} {pos : Nat} (h : w.heap[k]? = some (.stringIter s pos)) : w.iterPos k = pos := by
  unfold World.iterPos; rw [h]
theorem cell_iterAt2 (w : World) (k j o : Nat) (s : ByteArray) (pos : Nat) (h : j ≠ k) : (w.iterAt k s pos).cell? ⟨j, o, none⟩ = w.cell? ⟨j, o, none⟩ := World.cell?_of_block (Lib.iterAt_other w k j s pos h)


theorem results_4 {fn : Func} {t u v x : Tmp} (h : fn.results = #[.tmp t, .tmp u, .tmp v, .tmp x]) (tmps : Array Value) (P : Program) (w : World) :
    (results fn tmps).run P w = .ok (.tuple #[tmps.getD t undef, tmps.getD u undef, tmps.getD v undef, tmps.getD x undef]) w := by
  simp [results, h]

set_option maxRecDepth 100000 in
set_option maxHeartbeats 4000000 in
theorem iWordDoes (t p : Int) (s : ByteArray) (w : World) :
    Calls Tryd.prog 42 #[.agg #[.int .i64 t, .int .i64 p], .string s] w fun e w' =>
      e = .returned (.tuple #[.int .i64 (wdo t p s).1.1, .int .i64 (wdo t p s).1.2.1, .int .i64 (wdo t p s).1.2.2, .bool (wdo t p s).2]) ∧ Below w.heap.size w w' := by
  have HM := Lib.hid (fun w => isMap_any t p w)
  have HW := Lib.hid (fun w => isTurnWord_any s w)
  cases hg : goodB t p
  · have HY : Hid (wdo t p s = ((0, 0, 0), false)) := Lib.hid (by rw [wdo, if_neg (by simp [hg])])
    rw [hg] at HM
    clear hg
    go_enter Tryd.func42, Tryd.ntmps42
    go_wp2_with fail
    refine (HM.out _).mono ?_
    rintro e w1 ⟨rfl, hb1⟩
    obtain ⟨c0, c1, hz, hb⟩ := map_block hb1
    clear hb1
    go_wp2_with fail
    refine bodyPost_ret (results_4 rfl _ _ _) rfl ?_
    exact ⟨ret_4 HY.out, hb⟩
  · cases hw : turnB s
    · have HY : Hid (wdo t p s = ((0, 0, 0), false)) := Lib.hid (by rw [wdo, if_neg (by simp [hw])])
      rw [hg] at HM
      rw [hw] at HW
      clear hg hw
      go_enter Tryd.func42, Tryd.ntmps42
      go_wp2_with fail
      refine (HM.out _).mono ?_
      rintro e w1 ⟨rfl, hb1⟩
      obtain ⟨c0, c1, hz, hb⟩ := map_block hb1
      clear hb1
      go_wp2_with fail
      refine (HW.out _).mono ?_
      rintro e w2 ⟨rfl, hb2⟩
      have HB := Lib.hid (hb.trans (hb2.mono (Nat.le_of_lt hz)))
      clear hb2 hb c0 c1
      go_wp2_with fail
      refine bodyPost_ret (results_4 rfl _ _ _) rfl ?_
      exact ⟨ret_4 HY.out, HB.out⟩
    · have HY : Hid (wdo t p s = (doesL t p s.data.toList, true)) := Lib.hid (by rw [wdo, if_pos ⟨hg, hw⟩])
      obtain ⟨g1, g2, g3, g4, g5, g6⟩ := goodB_iff.1 hg
      obtain ⟨hz0, hzz, hl⟩ := turnB_iff.1 hw
      have HG := Lib.hid hg
      have HL := Lib.hid hl
      have HZ := Lib.hid hzz
      rw [hg] at HM
      rw [hw] at HW
      clear hg hw g3 g6 hl
      go_enter Tryd.func42, Tryd.ntmps42
      go_wp2_with fail
      refine (HM.out _).mono ?_
      rintro e w1 ⟨rfl, hb1⟩
      obtain ⟨c0, c1, hz, hb⟩ := map_block hb1
      clear hb1
      go_wp2_with fail
      refine (HW.out _).mono ?_
      rintro e w2 ⟨rfl, hb2⟩
      have d0 := kept_cell hb2 hz c0
      have d1 := kept_cell hb2 hz c1
      have hz2 := Nat.lt_of_lt_of_le hz hb2.size
      have HB := Lib.hid (hb.trans (hb2.mono (Nat.le_of_lt hz)))
      clear hb2 hb c0 c1 hz
      go_wp2_with fail
      go_loopw [8, 9, 10] (fun x y z wr => ∃ (pos : Nat) (a b d : Int), doesL t p (s.data.toList.take pos) = (a, b, d) ∧ pos ≤ s.size ∧ x = .int .i64 a ∧ y = .int .i64 b ∧ z = .int .i64 d ∧ wr.heap[w2.heap.size]? = some (.stringIter s pos) ∧ wr.cell? ⟨w.heap.size, 0, none⟩ = some (.int .i64 t) ∧ wr.cell? ⟨w.heap.size, 1, none⟩ = some (.int .i64 p) ∧ Below w2.heap.size w2 wr) (fun _ _ _ wr => s.size - wr.iterPos w2.heap.size)
      case atStart => exact ⟨0, 1, 0, 1, rfl, Nat.zero_le _, rfl, rfl, rfl, World.iter_heap _ _ _, kept_cell (below_iter w2 s 0) hz2 d0, kept_cell (below_iter w2 s 0) hz2 d1, (Below.refl _ _).alloc (Nat.le_refl _) _⟩
      case round =>
        obtain ⟨pos, a, b, d, hx, hp, rfl, rfl, rfl, hit, hc0, hc1, hbel⟩ := hrel
        have HIT := Lib.hid hit
        have HBEL := Lib.hid hbel
        by_cases hlt : pos < s.size
        · have q0 : (wr.iterAt w2.heap.size s (pos + 1)).cell? ⟨w.heap.size, 0, none⟩ = some (.int .i64 t) := (cell_iterAt2 _ _ _ _ _ _ (by omega)).trans hc0
          have q1 : (wr.iterAt w2.heap.size s (pos + 1)).cell? ⟨w.heap.size, 1, none⟩ = some (.int .i64 p) := (cell_iterAt2 _ _ _ _ _ _ (by omega)).trans hc1
          have HQ0 := Lib.hid q0
          have HQ1 := Lib.hid q1
          obtain ⟨a0, a1, e0, e1, b0, b1⟩ := does_small HG.out HZ.out hx
          have hm1 := mul_bound (t := t) (n := a) (B := 3486784401) g1 g2 (by omega) a1
          have hm2 := mul_bound (t := t) (n := b) (B := 6973568802) g1 g2 (by omega) b1
          have hm3 := plus_bound g4 g5 e0 e1
          have hsg := HL.out s[pos] (List.getElem_mem (l := s.data.toList) (n := pos) (by simpa using hlt))
          clear hit hbel hc0 hc1 d0 d1
          by_cases hc : s[pos] = 111
          · have HX := Lib.hid (does_o hlt hx hc)
            have n1 : s[pos].toNat = 111 := by rw [hc]; rfl
            have hnx : ∀ ty, (Instr.next (.pointer (some ⟨w2.heap.size, 0, none⟩)) true ty).run Tryd.prog wr = _ := fun ty => Lib.run_next_ascii_at wr _ s pos ty HIT.out hlt (by omega)
            clear hx hc hsg
            go_wp2
            go_region
            go_wp2
            refine ⟨⟨pos + 1, _, _, _, HX.out, hlt, rfl, rfl, rfl, Lib.iterAt_heap _ _ _ _ _ HIT.out, HQ0.out, HQ1.out, (Lib.below_iterAt HBEL.out (Nat.le_refl _) _ _).drew⟩, ?_⟩
            rw [iterPos_of2 HIT.out, iterPos_of2 (w := (wr.iterAt w2.heap.size s (pos + 1)).drew) (Lib.iterAt_heap _ _ _ _ _ HIT.out)]; omega
          · have hc2 : s[pos] = 101 := hsg.resolve_left hc
            have HX := Lib.hid (does_e hlt hx hc2)
            have n1 : s[pos].toNat = 101 := by rw [hc2]; rfl
            have hnx : ∀ ty, (Instr.next (.pointer (some ⟨w2.heap.size, 0, none⟩)) true ty).run Tryd.prog wr = _ := fun ty => Lib.run_next_ascii_at wr _ s pos ty HIT.out hlt (by omega)
            clear hx hc hc2 hsg
            go_wp2
            refine ⟨⟨pos + 1, _, _, _, HX.out, hlt, rfl, rfl, rfl, Lib.iterAt_heap _ _ _ _ _ HIT.out, HQ0.out, HQ1.out, Lib.below_iterAt HBEL.out (Nat.le_refl _) _ _⟩, ?_⟩
            rw [iterPos_of2 HIT.out, iterPos_of2 (Lib.iterAt_heap _ _ _ _ _ HIT.out)]; omega
        · obtain rfl : pos = s.size := by omega
          have hx' : doesL t p s.data.toList = (a, b, d) := by rw [← hx, List.take_of_length_le (by simp)]
          have HX : Hid (wdo t p s = ((a, b, d), true)) := Lib.hid (by rw [HY.out, hx'])
          have hnx : ∀ ty, (Instr.next (.pointer (some ⟨w2.heap.size, 0, none⟩)) true ty).run Tryd.prog wr = _ := fun ty => Lib.run_next_end_at wr _ s s.size ty HIT.out hlt
          clear hx hx' hit hbel hc0 hc1
          go_wp2
          refine bodyPost_ret (results_4 rfl _ _ _) rfl ?_
          exact ⟨ret_4 HX.out, HB.out.trans (HBEL.out.mono HB.out.size)⟩
end Go.Proofs.YtbepnhgekbcbjaaDoor
