/-
  WHAT A WORD DOES: 'cyDoes' and 'WordDoes' of the model, 'WordDoes' of the program.
  PLAIN MATHEMATICS: greatest common divisors by remainders that may be less than 0.
  GREATEST COMMON DIVISORS: 'commonDivisor', 'lowestTerms' of the program; 'cyNumber' of the model.
  'l1Mod', 'mpShort' of the model at greater numbers.
  THE NUMBER OF A WORD: 'cyNumber', 'NumberOfWord', 'cyIs', 'IsCycleWord' of both.
  WHICH WORDS ARE CYCLE WORDS: 'cyIs' of the model, 'IsCycleWord' of both.
-/
import Derived.Test.YtnhpoefhcngoaaaDoorCyW
import Derived.RegionTactic
import Derived.ChangeAlike
import Derived.Test.YtnhpoefhcngoaaaDoorCyM
import Derived.Test.YtnhpoefhcngoaaaDoorLeaf
import Derived.Test.YtnhpoefhcngoaaaDoorWord
import Derived.IntWalk
namespace Go.Proofs.YtnhpoefhcngoaaaDoor
open Go.RowKit
set_option linter.unusedVariables false

/-- One sign more, case by case. -/
theorem does_o {t p a b d : Int} {s : ByteArray} {k : Nat} (hk : k < s.size) (hx : doesL t p (s.data.toList.take k) = (a, b, d)) (hc : s[k] = 111) : doesL t p (s.data.toList.take (k + 1)) = (t * a, t * b + p * d, d * 2) := by
  have e : s.data.toList.take (k + 1) = s.data.toList.take k ++ [s[k]] := by
    rw [List.take_succ_eq_append_getElem (by simpa using hk)]; rfl
  rw [e, doesL_snoc, hx, hc]; rfl
theorem does_e {t p a b d : Int} {s : ByteArray} {k : Nat} (hk : k < s.size) (hx : doesL t p (s.data.toList.take k) = (a, b, d)) (hc : s[k] = 101) : doesL t p (s.data.toList.take (k + 1)) = (a, b, d * 2) := by
  have e : s.data.toList.take (k + 1) = s.data.toList.take k ++ [s[k]] := by
    rw [List.take_succ_eq_append_getElem (by simpa using hk)]; rfl
  rw [e, doesL_snoc, hx, hc]; rfl
theorem does_small {t p a b d : Int} (hg : goodB t p = true) {s : ByteArray} {k : Nat} (hs : s.size ≤ 10) (hx : doesL t p (s.data.toList.take k) = (a, b, d)) :
    1 ≤ a ∧ a ≤ 3486784401 ∧ 1 ≤ d ∧ d ≤ 1024 ∧ -6973568802 ≤ b ∧ b ≤ 6973568802 := by
  have h := doesL_b hg (l := s.data.toList.take k) (by have := List.length_take_le' k s.data.toList; have : s.data.toList.length = s.size := by simp
                                                       omega)
  rw [hx] at h
  exact h
theorem plus_bound {p d : Int} (h1 : -9 ≤ p) (h2 : p ≤ 9) (h3 : 1 ≤ d) (h4 : d ≤ 1024) : -9216 ≤ p * d ∧ p * d ≤ 9216 := by
  have hp : p = -9 ∨ p = -8 ∨ p = -7 ∨ p = -6 ∨ p = -5 ∨ p = -4 ∨ p = -3 ∨ p = -2 ∨ p = -1 ∨ p = 0 ∨ p = 1 ∨ p = 2 ∨ p = 3 ∨ p = 4 ∨ p = 5 ∨ p = 6 ∨ p = 7 ∨ p = 8 ∨ p = 9 := by omega
  rcases hp with rfl | rfl | rfl | rfl | rfl | rfl | rfl | rfl | rfl | rfl | rfl | rfl | rfl | rfl | rfl | rfl | rfl | rfl | rfl <;> omega

theorem ret_3i {a b c a' b' c' : Int} (h : (a, b, c) = (a', b', c')) : Ending.returned (.tuple #[.int .i64 a', .int .i64 b', .int .i64 c']) = .returned (.tuple #[.int .i64 a, .int .i64 b, .int .i64 c]) := by
  obtain ⟨rfl, rfl, rfl⟩ := by simpa using h
  rfl

set_option maxRecDepth 100000 in
set_option maxHeartbeats 2000000 in
theorem cyDoes_any (t p : Int) (s : ByteArray) (w : World) (hg : goodB t p = true) (hw : turnB s = true) :
    Calls Tryd.prog 29 #[.agg #[.int .i64 t, .int .i64 p], .string s] w fun e w' =>
      e = .returned (.tuple #[.int .i64 (doesL t p s.data.toList).1, .int .i64 (doesL t p s.data.toList).2.1, .int .i64 (doesL t p s.data.toList).2.2]) ∧ Below w.heap.size w w' := by
  obtain ⟨g1, g2, g3, g4, g5, g6⟩ := goodB_iff.1 hg
  obtain ⟨hz0, hz, hl⟩ := turnB_iff.1 hw
  have HG := Lib.hid hg
  have HL := Lib.hid hl
  have HZ := Lib.hid hz
  have hz1 : (s.size : Int) ≤ 10 := by omega
  clear hg hl hw g3 g6 hz hz0
  go_enter Tryd.func29, Tryd.ntmps29
  go_wp2
  go_loop [7, 8, 9, 10] (fun x y z i => ∃ (pos : Nat) (a b d : Int), doesL t p (s.data.toList.take pos) = (a, b, d) ∧ pos ≤ s.size ∧ x = .int .i64 a ∧ y = .int .i64 b ∧ z = .int .i64 d ∧ i = .int .i64 pos) (fun _ _ _ i => s.size - (intOf i).toNat)
  case atStart => exact ⟨0, 1, 0, 1, rfl, Nat.zero_le _, rfl, rfl, rfl, rfl⟩
  case round =>
    obtain ⟨pos, a, b, d, hx, hp, rfl, rfl, rfl, rfl⟩ := hrel
    by_cases hlt : pos < s.size
    · have hix := run_at w s pos hlt
      have hlt2 : (pos : Int) < s.size := by omega
      obtain ⟨a0, a1, d0, d1, b0, b1⟩ := does_small HG.out HZ.out hx
      have hm1 := mul_bound (t := t) (n := a) (B := 3486784401) g1 g2 (by omega) a1
      have hm2 := mul_bound (t := t) (n := b) (B := 6973568802) g1 g2 (by omega) b1
      have hm3 := plus_bound g4 g5 d0 d1
      have hsg := HL.out s[pos] (List.getElem_mem (l := s.data.toList) (n := pos) (by simpa using hlt))
      have hix2 := fun w => run_at w s pos hlt
      by_cases hc : s[pos] = 111
      · have HX := Lib.hid (does_o hlt hx hc)
        have n1 : s[pos].toNat = 111 := by rw [hc]; rfl
        simp only [n1] at hix2
        rw [Int.mul_comm t a] at hm1
        clear hx hc hsg n1 hix
        go_wp2
        exact ⟨⟨pos + 1, _, _, _, HX.out, hlt, by rw [Int.mul_comm], rfl, rfl, by go_num⟩, by simp [intOf]; omega⟩
      · have hc2 : s[pos] = 101 := hsg.resolve_left hc
        have HX := Lib.hid (does_e hlt hx hc2)
        have n1 : s[pos].toNat = 101 := by rw [hc2]; rfl
        simp only [n1] at hix2
        clear hx hc hc2 hsg n1 hix
        go_wp2
        exact ⟨⟨pos + 1, _, _, _, HX.out, hlt, rfl, rfl, rfl, by go_num⟩, by simp [intOf]; omega⟩
    · obtain rfl : pos = s.size := by omega
      have hx' : doesL t p s.data.toList = (a, b, d) := by rw [← hx, List.take_of_length_le (by simp)]
      have HX := Lib.hid hx'
      have hlt2 : ¬ ((s.size : Int) < s.size) := by omega
      clear hx hx'
      go_wp2
      go_ret3
      exact ⟨ret_3i HX.out, (Below.refl _ _).alloc (Nat.le_refl _) _⟩

/-- What WordDoes comes to: p, q, d, and whether there are a map and a word. -/
def wdo (t p : Int) (s : ByteArray) : (Int × Int × Int) × Bool := if goodB t p = true ∧ turnB s = true then (doesL t p s.data.toList, true) else ((0, 0, 0), false)
theorem ret_4 {x : (Int × Int × Int) × Bool} {a b c : Int} {f : Bool} (h : x = ((a, b, c), f)) : Ending.returned (.tuple #[.int .i64 a, .int .i64 b, .int .i64 c, .bool f]) = .returned (.tuple #[.int .i64 x.1.1, .int .i64 x.1.2.1, .int .i64 x.1.2.2, .bool x.2]) := by rw [h]
theorem iter_last2 (w : World) (o : Obj) (s : ByteArray) (pos : Nat) : ((w.alloc o).iter s pos).heap[w.heap.size + 1]? = some (.stringIter s pos) := by
  have := World.iter_heap (w.alloc o) s pos
  rwa [show (w.alloc o).heap.size = w.heap.size + 1 by simp] at this
theorem iterPos_of2 {w : World} {k : Nat} {s : ByteArray} {pos : Nat} (h : w.heap[k]? = some (.stringIter s pos)) : w.iterPos k = pos := by
  unfold World.iterPos; rw [h]
theorem cell_iterAt2 (w : World) (k j o : Nat) (s : ByteArray) (pos : Nat) (h : j ≠ k) : (w.iterAt k s pos).cell? ⟨j, o, none⟩ = w.cell? ⟨j, o, none⟩ := World.cell?_of_block (Lib.iterAt_other w k j s pos h)


theorem results_4 {fn : Func} {t u v x : Tmp} (h : fn.results = #[.tmp t, .tmp u, .tmp v, .tmp x]) (tmps : Array Value) (P : Program) (w : World) :
    (results fn tmps).run P w = .ok (.tuple #[tmps.getD t undef, tmps.getD u undef, tmps.getD v undef, tmps.getD x undef]) w := by
  simp [results, h]

set_option maxHeartbeats 1000000 in
theorem sWordDoes (t p : Int) (s : ByteArray) (w : World) :
    Calls Tryd.prog 5 #[.agg #[.int .i64 t, .int .i64 p], .string s] w fun e w' =>
      e = .returned (.tuple #[.int .i64 (wdo t p s).1.1, .int .i64 (wdo t p s).1.2.1, .int .i64 (wdo t p s).1.2.2, .bool (wdo t p s).2]) ∧ Below w.heap.size w w' := by
  have HM := Lib.hid (fun w => mpGood_any t p w)
  have HW := Lib.hid (fun w => cyWord_any s w)
  cases hg : goodB t p
  · have HY : Hid (wdo t p s = ((0, 0, 0), false)) := Lib.hid (by rw [wdo, if_neg (by simp [hg])])
    rw [hg] at HM
    clear hg
    go_enter Tryd.func5, Tryd.ntmps5
    go_wp2_with fail
    refine (HM.out _).mono ?_
    rintro e w1 ⟨rfl, hb1⟩
    obtain ⟨c0, c1, hz, hb⟩ := map_block hb1
    clear hb1
    go_wp2_with fail
    refine bodyPost_ret (results_4 rfl _ _ _) rfl ?_
    exact ⟨ret_4 HY.out, hb⟩
  · cases hw : turnB s
    · have HY : Hid (wdo t p s = ((0, 0, 0), false)) := Lib.hid (by rw [wdo, if_neg (by simp [hw])])
      rw [hg] at HM
      rw [hw] at HW
      clear hg hw
      go_enter Tryd.func5, Tryd.ntmps5
      go_wp2_with fail
      refine (HM.out _).mono ?_
      rintro e w1 ⟨rfl, hb1⟩
      obtain ⟨c0, c1, hz, hb⟩ := map_block hb1
      clear hb1
      go_wp2_with (go_at_call 28; refine (HW.out _).mono ?_; rintro e w' ⟨rfl, rfl⟩)
      refine bodyPost_ret (results_4 rfl _ _ _) rfl ?_
      exact ⟨ret_4 HY.out, hb⟩
    · have HY : Hid (wdo t p s = (doesL t p s.data.toList, true)) := Lib.hid (by rw [wdo, if_pos ⟨hg, hw⟩])
      have HD := Lib.hid (fun w => cyDoes_any t p s w hg hw)
      rw [hg] at HM
      rw [hw] at HW
      clear hg hw
      go_enter Tryd.func5, Tryd.ntmps5
      go_wp2_with fail
      refine (HM.out _).mono ?_
      rintro e w1 ⟨rfl, hb1⟩
      obtain ⟨c0, c1, hz, hb⟩ := map_block hb1
      clear hb1
      go_wp2_with (go_at_call 28; refine (HW.out _).mono ?_; rintro e w' ⟨rfl, rfl⟩)
      refine (HD.out _).mono ?_
      rintro e w2 ⟨rfl, hb2⟩
      have HB := Lib.hid (hb.trans (hb2.mono (Nat.le_of_lt hz)))
      clear hb2 hb c0 c1
      go_wp2_with fail
      refine bodyPost_ret (results_4 rfl _ _ _) rfl ?_
      exact ⟨ret_4 HY.out, HB.out⟩

set_option maxRecDepth 100000 in
set_option maxHeartbeats 4000000 in
theorem iWordDoes (t p : Int) (s : ByteArray) (w : World) :
    Calls Tryd.prog 4 #[.agg #[.int .i64 t, .int .i64 p], .string s] w fun e w' =>
      e = .returned (.tuple #[.int .i64 (wdo t p s).1.1, .int .i64 (wdo t p s).1.2.1, .int .i64 (wdo t p s).1.2.2, .bool (wdo t p s).2]) ∧ Below w.heap.size w w' := by
  have HM := Lib.hid (fun w => isMap_any t p w)
  have HW := Lib.hid (fun w => isTurnWord_any s w)
  cases hg : goodB t p
  · have HY : Hid (wdo t p s = ((0, 0, 0), false)) := Lib.hid (by rw [wdo, if_neg (by simp [hg])])
    rw [hg] at HM
    clear hg
    go_enter Tryd.func4, Tryd.ntmps4
    go_wp2_with fail
    refine (HM.out _).mono ?_
    rintro e w1 ⟨rfl, hb1⟩
    obtain ⟨c0, c1, hz, hb⟩ := map_block hb1
    clear hb1
    go_wp2_with fail
    refine bodyPost_ret (results_4 rfl _ _ _) rfl ?_
    exact ⟨ret_4 HY.out, hb⟩
  · cases hw : turnB s
    · have HY : Hid (wdo t p s = ((0, 0, 0), false)) := Lib.hid (by rw [wdo, if_neg (by simp [hw])])
      rw [hg] at HM
      rw [hw] at HW
      clear hg hw
      go_enter Tryd.func4, Tryd.ntmps4
      go_wp2_with fail
      refine (HM.out _).mono ?_
      rintro e w1 ⟨rfl, hb1⟩
      obtain ⟨c0, c1, hz, hb⟩ := map_block hb1
      clear hb1
      go_wp2_with fail
      refine (HW.out _).mono ?_
      rintro e w2 ⟨rfl, hb2⟩
      have HB := Lib.hid (hb.trans (hb2.mono (Nat.le_of_lt hz)))
      clear hb2 hb c0 c1
      go_wp2_with fail
      refine bodyPost_ret (results_4 rfl _ _ _) rfl ?_
      exact ⟨ret_4 HY.out, HB.out⟩
    · have HY : Hid (wdo t p s = (doesL t p s.data.toList, true)) := Lib.hid (by rw [wdo, if_pos ⟨hg, hw⟩])
      obtain ⟨g1, g2, g3, g4, g5, g6⟩ := goodB_iff.1 hg
      obtain ⟨hz0, hzz, hl⟩ := turnB_iff.1 hw
      have HG := Lib.hid hg
      have HL := Lib.hid hl
      have HZ := Lib.hid hzz
      rw [hg] at HM
      rw [hw] at HW
      clear hg hw g3 g6 hl
      go_enter Tryd.func4, Tryd.ntmps4
      go_wp2_with fail
      refine (HM.out _).mono ?_
      rintro e w1 ⟨rfl, hb1⟩
      obtain ⟨c0, c1, hz, hb⟩ := map_block hb1
      clear hb1
      go_wp2_with fail
      refine (HW.out _).mono ?_
      rintro e w2 ⟨rfl, hb2⟩
      have d0 := kept_cell hb2 hz c0
      have d1 := kept_cell hb2 hz c1
      have hz2 := Nat.lt_of_lt_of_le hz hb2.size
      have HB := Lib.hid (hb.trans (hb2.mono (Nat.le_of_lt hz)))
      clear hb2 hb c0 c1 hz
      go_wp2_with fail
      go_loopw [8, 9, 10] (fun x y z wr => ∃ (pos : Nat) (a b d : Int), doesL t p (s.data.toList.take pos) = (a, b, d) ∧ pos ≤ s.size ∧ x = .int .i64 a ∧ y = .int .i64 b ∧ z = .int .i64 d ∧ wr.heap[w2.heap.size]? = some (.stringIter s pos) ∧ wr.cell? ⟨w.heap.size, 0, none⟩ = some (.int .i64 t) ∧ wr.cell? ⟨w.heap.size, 1, none⟩ = some (.int .i64 p) ∧ Below w2.heap.size w2 wr) (fun _ _ _ wr => s.size - wr.iterPos w2.heap.size)
      case atStart => exact ⟨0, 1, 0, 1, rfl, Nat.zero_le _, rfl, rfl, rfl, World.iter_heap _ _ _, kept_cell (below_iter w2 s 0) hz2 d0, kept_cell (below_iter w2 s 0) hz2 d1, (Below.refl _ _).alloc (Nat.le_refl _) _⟩
      case round =>
        obtain ⟨pos, a, b, d, hx, hp, rfl, rfl, rfl, hit, hc0, hc1, hbel⟩ := hrel
        have HIT := Lib.hid hit
        have HBEL := Lib.hid hbel
        by_cases hlt : pos < s.size
        · have q0 : (wr.iterAt w2.heap.size s (pos + 1)).cell? ⟨w.heap.size, 0, none⟩ = some (.int .i64 t) := (cell_iterAt2 _ _ _ _ _ _ (by omega)).trans hc0
          have q1 : (wr.iterAt w2.heap.size s (pos + 1)).cell? ⟨w.heap.size, 1, none⟩ = some (.int .i64 p) := (cell_iterAt2 _ _ _ _ _ _ (by omega)).trans hc1
          have HQ0 := Lib.hid q0
          have HQ1 := Lib.hid q1
          obtain ⟨a0, a1, e0, e1, b0, b1⟩ := does_small HG.out HZ.out hx
          have hm1 := mul_bound (t := t) (n := a) (B := 3486784401) g1 g2 (by omega) a1
          have hm2 := mul_bound (t := t) (n := b) (B := 6973568802) g1 g2 (by omega) b1
          have hm3 := plus_bound g4 g5 e0 e1
          have hsg := HL.out s[pos] (List.getElem_mem (l := s.data.toList) (n := pos) (by simpa using hlt))
          clear hit hbel hc0 hc1 d0 d1
          by_cases hc : s[pos] = 111
          · have HX := Lib.hid (does_o hlt hx hc)
            have n1 : s[pos].toNat = 111 := by rw [hc]; rfl
            have hnx : ∀ ty, (Instr.next (.pointer (some ⟨w2.heap.size, 0, none⟩)) true ty).run Tryd.prog wr = _ := fun ty => Lib.run_next_ascii_at wr _ s pos ty HIT.out hlt (by omega)
            clear hx hc hsg
            go_wp2
            go_region
            go_wp2
            refine ⟨⟨pos + 1, _, _, _, HX.out, hlt, rfl, rfl, rfl, Lib.iterAt_heap _ _ _ _ _ HIT.out, HQ0.out, HQ1.out, (Lib.below_iterAt HBEL.out (Nat.le_refl _) _ _).drew⟩, ?_⟩
            rw [iterPos_of2 HIT.out, iterPos_of2 (w := (wr.iterAt w2.heap.size s (pos + 1)).drew) (Lib.iterAt_heap _ _ _ _ _ HIT.out)]; omega
          · have hc2 : s[pos] = 101 := hsg.resolve_left hc
            have HX := Lib.hid (does_e hlt hx hc2)
            have n1 : s[pos].toNat = 101 := by rw [hc2]; rfl
            have hnx : ∀ ty, (Instr.next (.pointer (some ⟨w2.heap.size, 0, none⟩)) true ty).run Tryd.prog wr = _ := fun ty => Lib.run_next_ascii_at wr _ s pos ty HIT.out hlt (by omega)
            clear hx hc hc2 hsg
            go_wp2
            refine ⟨⟨pos + 1, _, _, _, HX.out, hlt, rfl, rfl, rfl, Lib.iterAt_heap _ _ _ _ _ HIT.out, HQ0.out, HQ1.out, Lib.below_iterAt HBEL.out (Nat.le_refl _) _ _⟩, ?_⟩
            rw [iterPos_of2 HIT.out, iterPos_of2 (Lib.iterAt_heap _ _ _ _ _ HIT.out)]; omega
        · obtain rfl : pos = s.size := by omega
          have hx' : doesL t p s.data.toList = (a, b, d) := by rw [← hx, List.take_of_length_le (by simp)]
          have HX : Hid (wdo t p s = ((a, b, d), true)) := Lib.hid (by rw [HY.out, hx'])
          have hnx : ∀ ty, (Instr.next (.pointer (some ⟨w2.heap.size, 0, none⟩)) true ty).run Tryd.prog wr = _ := fun ty => Lib.run_next_end_at wr _ s s.size ty HIT.out hlt
          clear hx hx' hit hbel hc0 hc1
          go_wp2
          refine bodyPost_ret (results_4 rfl _ _ _) rfl ?_
          exact ⟨ret_4 HX.out, HB.out.trans (HBEL.out.mono HB.out.size)⟩
end Go.Proofs.YtnhpoefhcngoaaaDoor

namespace Go.Proofs.YtnhpoefhcngoaaaDoor

theorem gcd_tmod (a b : Int) : Int.gcd b (a.tmod b) = Int.gcd a b := by
  unfold Int.gcd
  rw [Int.natAbs_tmod, Nat.gcd_comm b.natAbs, ← Nat.gcd_rec, Nat.gcd_comm]
theorem tmod_small {a b B : Int} (h0 : b ≠ 0) (h1 : -B ≤ b) (h2 : b ≤ B) : -B ≤ a.tmod b ∧ a.tmod b ≤ B ∧ (a.tmod b).natAbs < b.natAbs := by
  have h : (a.tmod b).natAbs < b.natAbs := by
    rw [Int.natAbs_tmod]
    exact Nat.mod_lt _ (by omega)
  omega
theorem gcd_zero (a : Int) : ((Int.gcd a 0 : Nat) : Int) = if 0 ≤ a then a else -a := by
  rw [Int.gcd_zero]
  split <;> omega
theorem gcd_pos {a b : Int} (h : b ≠ 0) : (1 : Int) ≤ (Int.gcd a b : Nat) := by
  have : Int.gcd a b ≠ 0 := by intro e; rw [Int.gcd_eq_zero_iff] at e; exact h e.2
  omega
theorem gcd_abs (a b : Int) : Int.gcd (a.natAbs : Int) b = Int.gcd a b := by unfold Int.gcd; simp
theorem gcd_le {a b B : Int} (h : 1 ≤ b) (hb : b ≤ B) : ((Int.gcd a b : Nat) : Int) ≤ B := by
  have h2 : (Int.gcd a b : Int) ∣ b := Int.gcd_dvd_right ..
  have := Int.le_of_dvd (by omega) h2
  omega
theorem gcd_neg2 (a b : Int) : Int.gcd (-a) (-b) = Int.gcd a b := by unfold Int.gcd; simp
end Go.Proofs.YtnhpoefhcngoaaaDoor

namespace Go.Proofs.YtnhpoefhcngoaaaDoor
open Go.RowKit
set_option linter.unusedVariables false

set_option maxHeartbeats 1000000 in
theorem commonDivisor_any (a b : Int) (w : World) (a0 : -7000000000000 ≤ a) (a1 : a ≤ 7000000000000) (b0 : -7000000000000 ≤ b) (b1 : b ≤ 7000000000000) :
    Calls Tryd.prog 50 #[.int .i64 a, .int .i64 b] w fun e w' => e = .returned (.int .i64 (Int.gcd a b : Nat)) ∧ Below w.heap.size w w' := by
  have HA := Lib.hid (And.intro (And.intro a0 a1) (And.intro b0 b1))
  clear a0 a1 b0 b1
  go_enter Tryd.func50, Tryd.ntmps50
  go_wp2
  go_loopw [0, 1] (fun x y wr => ∃ u v : Int, x = .int .i64 u ∧ y = .int .i64 v ∧ Int.gcd u v = Int.gcd a b ∧ -7000000000000 ≤ u ∧ u ≤ 7000000000000 ∧ -7000000000000 ≤ v ∧ v ≤ 7000000000000 ∧ Below w.heap.size w wr) (fun _ y _ => (intOf y).natAbs)
  case atStart => exact ⟨a, b, rfl, rfl, rfl, HA.out.1.1, HA.out.1.2, HA.out.2.1, HA.out.2.2, Below.refl _ _⟩
  case round =>
    obtain ⟨u, v, rfl, rfl, hg, u0, u1, v0, v1, hbel⟩ := hrel
    have HB := Lib.hid hbel
    have HGC := Lib.hid hg
    clear hg hbel
    by_cases hv : v = 0
    · subst hv
      have hgz := gcd_zero u
      by_cases hu : 0 ≤ u
      · rw [if_pos hu] at hgz
        have HGZ := Lib.hid hgz
        have hmx : -u ≤ u := by omega
        clear hgz
        go_wp2
        go_ret
        refine ⟨ret_int ?_, HB.out⟩
        rw [← HGC.out, HGZ.out]
      · rw [if_neg hu] at hgz
        have HGZ := Lib.hid hgz
        clear hgz
        go_wp2
        go_ret
        refine ⟨ret_int ?_, HB.out⟩
        rw [← HGC.out, HGZ.out]
    · obtain ⟨m0, m1, m2⟩ := tmod_small (a := u) hv v0 v1
      have HT := Lib.hid ((gcd_tmod u v).trans HGC.out)
      have HM := Lib.hid m2
      have HM0 := Lib.hid (And.intro m0 m1)
      have hv1 : (v != 0) = true := by simpa using hv
      have hv2 : (v == 0) = false := by simpa using hv
      clear m2 m0 m1
      go_wp2
      go_region
      go_wp2
      exact ⟨⟨v, u.tmod v, rfl, rfl, HT.out, v0, v1, HM0.out.1, HM0.out.2, HB.out.drew⟩, by simpa [intOf] using HM.out⟩

theorem tdiv_small {a g B : Int} (h0 : -B ≤ a) (h1 : a ≤ B) : -B ≤ a.tdiv g ∧ a.tdiv g ≤ B := by
  have : (a.tdiv g).natAbs ≤ a.natAbs := by rw [Int.natAbs_tdiv]; exact Nat.div_le_self _ _
  omega
/-- In lowest terms, the denominator greater than 0. -/
def lowT (a b : Int) : Int × Int := if b < 0 then ((-a).tdiv (Int.gcd a b), (-b).tdiv (Int.gcd a b)) else (a.tdiv (Int.gcd a b), b.tdiv (Int.gcd a b))
theorem ret_2i {x : Int × Int} {a b : Int} (h : x = (a, b)) : Ending.returned (.tuple #[.int .i64 a, .int .i64 b]) = .returned (.tuple #[.int .i64 x.1, .int .i64 x.2]) := by rw [h]

set_option maxHeartbeats 1000000 in
theorem lowestTerms_any (a b : Int) (w : World) (h0 : b ≠ 0) (a0 : -7000000000000 ≤ a) (a1 : a ≤ 7000000000000) (b0 : -7000000000000 ≤ b) (b1 : b ≤ 7000000000000) :
    Calls Tryd.prog 30 #[.int .i64 a, .int .i64 b] w fun e w' => e = .returned (.tuple #[.int .i64 (lowT a b).1, .int .i64 (lowT a b).2]) ∧ Below w.heap.size w w' := by
  have hgp := gcd_pos (a := a) h0
  by_cases hb : b < 0
  · have HY : Hid (lowT a b = ((-a).tdiv (Int.gcd a b), (-b).tdiv (Int.gcd a b))) := Lib.hid (by rw [lowT, if_pos hb])
    have HC := Lib.hid (fun w => commonDivisor_any (-a) (-b) w (by omega) (by omega) (by omega) (by omega))
    rw [gcd_neg2] at HC
    have hgl := gcd_le (a := -a) (b := -b) (B := 7000000000000) (by omega) (by omega)
    rw [gcd_neg2] at hgl
    generalize ((Int.gcd a b : Nat) : Int) = g at HY HC hgp hgl
    have hg2 : (g == 0) = false := by simp; omega
    obtain ⟨q1, q2⟩ := tdiv_small (g := g) a0 a1
    obtain ⟨q3, q4⟩ := tdiv_small (g := g) b0 b1
    go_enter Tryd.func30, Tryd.ntmps30
    go_wp2_with fail
    refine (HC.out _).mono ?_
    rintro e w1 ⟨rfl, hb1⟩
    go_wp2_with fail
    go_region
    go_wp2_with fail
    go_ret2
    exact ⟨ret_2i (by rw [HY.out, Int.neg_tdiv, Int.neg_tdiv]), hb1.drew⟩
  · have HY : Hid (lowT a b = (a.tdiv (Int.gcd a b), b.tdiv (Int.gcd a b))) := Lib.hid (by rw [lowT, if_neg hb])
    have HC := Lib.hid (fun w => commonDivisor_any a b w (by omega) (by omega) (by omega) (by omega))
    have hgl := gcd_le (a := a) (b := b) (B := 7000000000000) (by omega) (by omega)
    generalize ((Int.gcd a b : Nat) : Int) = g at HY HC hgp hgl
    have hg2 : (g == 0) = false := by simp; omega
    obtain ⟨q1, q2⟩ := tdiv_small (g := g) a0 a1
    obtain ⟨q3, q4⟩ := tdiv_small (g := g) b0 b1
    go_enter Tryd.func30, Tryd.ntmps30
    go_wp2_with fail
    refine (HC.out _).mono ?_
    rintro e w1 ⟨rfl, hb1⟩
    go_wp2_with fail
    go_region
    go_wp2_with fail
    go_ret2
    exact ⟨ret_2i (by rw [HY.out, Int.tdiv_eq_ediv_of_nonneg (a := b) (by omega)]), hb1.drew⟩
end Go.Proofs.YtnhpoefhcngoaaaDoor

namespace Go.Proofs.YtnhpoefhcngoaaaDoor
open Go.RowKit
set_option linter.unusedVariables false

theorem tmod_pos (n m : Int) (hm : 0 < m) : -m < n.tmod m ∧ n.tmod m < m ∧ (n.tmod m + m) % m = n % m := by
  have h1 := Int.emod_nonneg n (show m ≠ 0 by omega)
  have h2 := Int.emod_lt_of_pos n hm
  have h3 : n.tmod m = n % m ∨ n.tmod m = n % m - m := by
    rw [Int.tmod_eq_emod]
    split
    · left; omega
    · right; omega
  rcases h3 with h | h
  · refine ⟨by omega, by omega, ?_⟩
    rw [h, Int.add_emod_right, Int.emod_emod]
  · have h4 : -m < n.tmod m := Int.lt_tmod_of_pos n hm
    refine ⟨h4, by omega, ?_⟩
    rw [h, show n % m - m + m = n % m by omega, Int.emod_emod]

theorem sxe {t p n : Int} (h : (n.tmod 2 == 0) = true) : n.tdiv 2 = sx t p n := by
  simp only [beq_iff_eq] at h
  have := tmod2 n
  unfold sx
  rw [if_pos (by omega), Int.tdiv_eq_ediv]
  split <;> omega
theorem sxo {t p n : Int} (ht : t % 2 = 1) (hp : p % 2 = 1) (h : (n.tmod 2 == 0) = false) : (t * n + p).tdiv 2 = sx t p n := by
  simp only [beq_eq_false_iff_ne, ne_eq] at h
  have := tmod2 n
  have := odd_even ht hp (n := n) (by omega)
  unfold sx
  rw [if_neg (by omega), Int.tdiv_eq_ediv]
  split <;> omega

theorem mpShort_big (t p n : Int) (w : World) (hg : goodB t p = true) (n1 : -2000000000000000 ≤ n) (n2 : n ≤ 2000000000000000) :
    Calls Tryd.prog 52 #[.agg #[.int .i64 t, .int .i64 p], .int .i64 n] w fun e w' => e = .returned (.int .i64 (sx t p n)) ∧ Below w.heap.size w w' := by
  obtain ⟨g1, g2, g3, g4, g5, g6⟩ := goodB_iff.1 hg
  have hm := mul_bound (B := 2000000000000000) g1 g2 (by omega) n2
  have H3 := Lib.hid g3
  have H6 := Lib.hid g6
  clear g3 g6 hg
  go_enter Tryd.func52, Tryd.ntmps52
  go_wp2
  all_goals
    go_ret
  · exact ⟨ret_int (sxe (by assumption)), (Below.refl _ _).alloc (Nat.le_refl _) _⟩
  · exact ⟨ret_int (sxo H3.out H6.out (by assumption)), (Below.refl _ _).alloc (Nat.le_refl _) _⟩

end Go.Proofs.YtnhpoefhcngoaaaDoor

namespace Go.Proofs.YtnhpoefhcngoaaaDoor
open Go.RowKit
set_option linter.unusedVariables false

/-- The greater one. -/
def mostI (a b : Int) : Int := if b < a then a else b
theorem l1Most_any (a b : Int) (w : World) :
    Calls Tryd.prog 60 #[.int .i64 a, .int .i64 b] w fun e w' => e = .returned (.int .i64 (mostI a b)) ∧ w = w' := by
  by_cases h : b < a
  · go_enter Tryd.func60, Tryd.ntmps60
    go_wp2
    go_ret
    exact ⟨ret_int (by rw [mostI, if_pos h]), rfl⟩
  · go_enter Tryd.func60, Tryd.ntmps60
    go_wp2
    go_ret
    exact ⟨ret_int (by rw [mostI, if_neg (by omega)]), rfl⟩
theorem l1Abs_any (a : Int) (w : World) (a0 : -7000000000000 ≤ a) (a1 : a ≤ 7000000000000) :
    Calls Tryd.prog 51 #[.int .i64 a] w fun e w' => e = .returned (.int .i64 (a.natAbs : Nat)) ∧ w = w' := by
  go_enter Tryd.func51, Tryd.ntmps51
  go_wp2_with (go_at_call 60; refine (l1Most_any _ _ _).mono ?_; rintro e w' ⟨rfl, rfl⟩)
  go_ret
  refine ⟨ret_int ?_, rfl⟩
  unfold mostI
  split <;> omega

theorem ret_3f {x : Int × Int} {f : Bool} {a b : Int} {g : Bool} (h : x = (a, b)) (h' : f = g) : Ending.returned (.tuple #[.int .i64 a, .int .i64 b, .bool g]) = .returned (.tuple #[.int .i64 x.1, .int .i64 x.2, .bool f]) := by rw [h, h']
theorem gcd_mod {u v : Int} (hu : 0 ≤ u) : Int.gcd v (u % v) = Int.gcd u v := by
  rw [← Int.tmod_eq_emod_of_nonneg hu, gcd_tmod]

set_option maxRecDepth 100000 in
set_option maxHeartbeats 4000000 in
theorem cyNumber_any (t p : Int) (s : ByteArray) (w : World) (hg : goodB t p = true) (hw : turnB s = true) :
    Calls Tryd.prog 31 #[.agg #[.int .i64 t, .int .i64 p], .string s] w fun e w' =>
      e = .returned (.tuple #[.int .i64 (numW t p s.data.toList).1, .int .i64 (numW t p s.data.toList).2, .bool true]) ∧ Below w.heap.size w w' := by
  have HD := Lib.hid (fun w => cyDoes_any t p s w hg hw)
  obtain ⟨hz0, hz1, hl⟩ := turnB_iff.1 hw
  have hlen : s.data.toList.length = s.size := by simp
  obtain ⟨a0, a1, d0, d1, b0, b1⟩ := doesL_b hg (l := s.data.toList) (by omega)
  have hne := doesL_ne hg (l := s.data.toList) (by omega)
  have hrp := rawN_pos hg (l := s.data.toList) (by omega)
  have hrb := rawN_b hg (l := s.data.toList) (by omega)
  obtain ⟨a, b, d, hx⟩ : ∃ a b d, doesL t p s.data.toList = (a, b, d) := ⟨_, _, _, rfl⟩
  have hraw : rawN t p s.data.toList = if d - a < 0 then (-b, -(d - a)) else (b, d - a) := by unfold rawN; rw [hx]
  rw [hx] at HD a0 a1 d0 d1 b0 b1 hne
  dsimp only at HD a0 a1 d0 d1 b0 b1 hne
  have hpd : (a == d) = false := by simp; omega
  obtain ⟨num, den, hnd⟩ : ∃ num den, rawN t p s.data.toList = (num, den) := ⟨_, _, rfl⟩
  have HN : Hid (numW t p s.data.toList = (num.tdiv (Int.gcd num den), den.tdiv (Int.gcd num den))) := Lib.hid (by unfold numW; rw [hnd])
  rw [hnd] at hrp hrb hraw
  dsimp only at hrp hrb
  have hgp := gcd_pos (a := num) (b := den) (by omega)
  have hgl := gcd_le (a := num) (b := den) (B := 7000000000000) (by omega) (by omega)
  have hga := gcd_abs num den
  obtain ⟨q1, q2⟩ := tdiv_small (a := num) (g := ((Int.gcd num den : Nat) : Int)) (B := 7000000000000) (by omega) (by omega)
  have hed : den.tdiv ((Int.gcd num den : Nat) : Int) = den / ((Int.gcd num den : Nat) : Int) := Int.tdiv_eq_ediv_of_nonneg (by omega)
  rw [hed] at HN
  obtain ⟨G, hG⟩ : ∃ G : Nat, Int.gcd num den = G := ⟨_, rfl⟩
  rw [hG] at HN hgp hgl hga q1 q2
  have HGA := Lib.hid hga
  have HAB := Lib.hid (fun w => l1Abs_any num w (by omega) (by omega))
  obtain ⟨r1, r2, r3⟩ := hrb
  clear hed hG hga hnd hx hg hw hl hlen hne
  by_cases hdn : d - a < 0
  · rw [if_pos hdn] at hraw
    obtain ⟨hn1, hn2⟩ : num = -b ∧ den = -(d - a) := by simpa using hraw
    have HN1 := Lib.hid hn1
    have HN2 := Lib.hid hn2
    clear hraw hn1 hn2
    go_enter Tryd.func31, Tryd.ntmps31
    go_wp2_with fail
    refine (HD.out _).mono ?_
    rintro e w1 ⟨rfl, hb1⟩
    have HB1 := Lib.hid (((Below.refl _ w).alloc (Nat.le_refl _) _).trans (hb1.mono (by simp)))
    clear hb1
    go_wp2_with fail
    rw [← HN2.out, ← HN1.out]
    refine (HAB.out _).mono ?_
    rintro e w2 ⟨rfl, rfl⟩
    have hna : ((num.natAbs : Nat) : Int) ≤ 7000000000000 := by omega
    go_wp2_with fail
    go_loopw [12, 13] (fun x y wr => ∃ u v : Int, x = .int .i64 u ∧ y = .int .i64 v ∧ Int.gcd u v = G ∧ 0 ≤ u ∧ u ≤ 7000000000000 ∧ 0 ≤ v ∧ v ≤ 7000000000000 ∧ Below w.heap.size w wr) (fun _ y _ => (intOf y).natAbs)
    case atStart => exact ⟨_, _, rfl, rfl, HGA.out, by omega, hna, by omega, by omega, HB1.out⟩
    case round =>
      obtain ⟨u, v, rfl, rfl, hg, u0, u1, v0, v1, hbel⟩ := hrel
      have HB := Lib.hid hbel
      have HGC := Lib.hid hg
      clear hg hbel hna
      by_cases hv : v = 0
      · subst hv
        have hgz : u = (G : Int) := by
          have := gcd_zero u
          rw [if_pos u0, HGC.out] at this
          exact this.symm
        subst hgz
        have hg2 : ((G : Int) == 0) = false := by simp; omega
        clear HGC
        go_wp2
        go_region
        go_wp2
        go_ret3
        exact ⟨ret_3f HN.out rfl, HB.out.drew⟩
      · have hv1 : 0 < v := by omega
        have m0 := Int.emod_nonneg u (show v ≠ 0 by omega)
        have m1 := Int.emod_lt_of_pos u hv1
        have HT := Lib.hid ((gcd_mod (v := v) u0).trans HGC.out)
        have HM0 := Lib.hid (And.intro m0 m1)
        clear m0 m1
        go_wp2
        go_region
        go_wp2
        exact ⟨⟨v, u % v, rfl, rfl, HT.out, v0, v1, HM0.out.1, by have := HM0.out.2; omega, HB.out.drew⟩, by have := HM0.out; simp only [intOf]; omega⟩
  · rw [if_neg hdn] at hraw
    obtain ⟨hn1, hn2⟩ : num = b ∧ den = d - a := by simpa using hraw
    subst hn1
    have HN2 := Lib.hid hn2
    clear hraw hn2
    go_enter Tryd.func31, Tryd.ntmps31
    go_wp2_with fail
    refine (HD.out _).mono ?_
    rintro e w1 ⟨rfl, hb1⟩
    have HB1 := Lib.hid (((Below.refl _ w).alloc (Nat.le_refl _) _).trans (hb1.mono (by simp)))
    clear hb1
    go_wp2_with fail
    rw [← HN2.out]
    refine (HAB.out _).mono ?_
    rintro e w2 ⟨rfl, rfl⟩
    have hna : ((num.natAbs : Nat) : Int) ≤ 7000000000000 := by omega
    go_wp2_with fail
    go_loopw [12, 13] (fun x y wr => ∃ u v : Int, x = .int .i64 u ∧ y = .int .i64 v ∧ Int.gcd u v = G ∧ 0 ≤ u ∧ u ≤ 7000000000000 ∧ 0 ≤ v ∧ v ≤ 7000000000000 ∧ Below w.heap.size w wr) (fun _ y _ => (intOf y).natAbs)
    case atStart => exact ⟨_, _, rfl, rfl, HGA.out, by omega, hna, by omega, by omega, HB1.out⟩
    case round =>
      obtain ⟨u, v, rfl, rfl, hg, u0, u1, v0, v1, hbel⟩ := hrel
      have HB := Lib.hid hbel
      have HGC := Lib.hid hg
      clear hg hbel hna
      by_cases hv : v = 0
      · subst hv
        have hgz : u = (G : Int) := by
          have := gcd_zero u
          rw [if_pos u0, HGC.out] at this
          exact this.symm
        subst hgz
        have hg2 : ((G : Int) == 0) = false := by simp; omega
        clear HGC
        go_wp2
        go_region
        go_wp2
        go_ret3
        exact ⟨ret_3f HN.out rfl, HB.out.drew⟩
      · have hv1 : 0 < v := by omega
        have m0 := Int.emod_nonneg u (show v ≠ 0 by omega)
        have m1 := Int.emod_lt_of_pos u hv1
        have HT := Lib.hid ((gcd_mod (v := v) u0).trans HGC.out)
        have HM0 := Lib.hid (And.intro m0 m1)
        clear m0 m1
        go_wp2
        go_region
        go_wp2
        exact ⟨⟨v, u % v, rfl, rfl, HT.out, v0, v1, HM0.out.1, by have := HM0.out.2; omega, HB.out.drew⟩, by have := HM0.out; simp only [intOf]; omega⟩

/-- What NumberOfWord comes to. -/
def now (t p : Int) (s : ByteArray) : Int × Int := if goodB t p = true ∧ turnB s = true then numW t p s.data.toList else (0, 0)
/-- Are there a map and a word? -/
def askT (t p : Int) (s : ByteArray) : Bool := goodB t p && turnB s

set_option maxHeartbeats 1000000 in
theorem sNumberOfWord (t p : Int) (s : ByteArray) (w : World) :
    Calls Tryd.prog 7 #[.agg #[.int .i64 t, .int .i64 p], .string s] w fun e w' =>
      e = .returned (.tuple #[.int .i64 (now t p s).1, .int .i64 (now t p s).2, .bool (askT t p s)]) ∧ Below w.heap.size w w' := by
  have HM := Lib.hid (fun w => mpGood_any t p w)
  have HW := Lib.hid (fun w => cyWord_any s w)
  cases hg : goodB t p
  · have HY : Hid (now t p s = (0, 0)) := Lib.hid (by rw [now, if_neg (by simp [hg])])
    have HA : Hid (askT t p s = false) := Lib.hid (by simp [askT, hg])
    rw [hg] at HM
    clear hg
    go_enter Tryd.func7, Tryd.ntmps7
    go_wp2_with fail
    refine (HM.out _).mono ?_
    rintro e w1 ⟨rfl, hb1⟩
    obtain ⟨c0, c1, hz, hb⟩ := map_block hb1
    clear hb1
    go_wp2_with fail
    go_ret3
    exact ⟨ret_3f HY.out HA.out, hb⟩
  · cases hw : turnB s
    · have HY : Hid (now t p s = (0, 0)) := Lib.hid (by rw [now, if_neg (by simp [hw])])
      have HA : Hid (askT t p s = false) := Lib.hid (by simp [askT, hw])
      rw [hg] at HM
      rw [hw] at HW
      clear hg hw
      go_enter Tryd.func7, Tryd.ntmps7
      go_wp2_with fail
      refine (HM.out _).mono ?_
      rintro e w1 ⟨rfl, hb1⟩
      obtain ⟨c0, c1, hz, hb⟩ := map_block hb1
      clear hb1
      go_wp2_with (go_at_call 28; refine (HW.out _).mono ?_; rintro e w' ⟨rfl, rfl⟩)
      go_ret3
      exact ⟨ret_3f HY.out HA.out, hb⟩
    · have HY : Hid (now t p s = numW t p s.data.toList) := Lib.hid (by rw [now, if_pos ⟨hg, hw⟩])
      have HA : Hid (askT t p s = true) := Lib.hid (by simp [askT, hg, hw])
      have HD := Lib.hid (fun w => cyNumber_any t p s w hg hw)
      rw [hg] at HM
      rw [hw] at HW
      clear hg hw
      go_enter Tryd.func7, Tryd.ntmps7
      go_wp2_with fail
      refine (HM.out _).mono ?_
      rintro e w1 ⟨rfl, hb1⟩
      obtain ⟨c0, c1, hz, hb⟩ := map_block hb1
      clear hb1
      go_wp2_with (go_at_call 28; refine (HW.out _).mono ?_; rintro e w' ⟨rfl, rfl⟩)
      refine (HD.out _).mono ?_
      rintro e w2 ⟨rfl, hb2⟩
      have HB := Lib.hid (hb.trans (hb2.mono (Nat.le_of_lt hz)))
      clear hb2 hb c0 c1
      go_wp2_with fail
      go_ret3
      exact ⟨ret_3f HY.out HA.out, HB.out⟩

theorem numW_lowT (t p : Int) (l : List UInt8) : numW t p l = lowT (doesL t p l).2.1 ((doesL t p l).2.2 - (doesL t p l).1) := by
  unfold numW lowT rawN
  split
  · dsimp only; rw [gcd_neg2]
  · rfl

set_option maxHeartbeats 1000000 in
theorem iNumberOfWord (t p : Int) (s : ByteArray) (w : World) :
    Calls Tryd.prog 6 #[.agg #[.int .i64 t, .int .i64 p], .string s] w fun e w' =>
      e = .returned (.tuple #[.int .i64 (now t p s).1, .int .i64 (now t p s).2, .bool (askT t p s)]) ∧ Below w.heap.size w w' := by
  have HD := Lib.hid (fun w => iWordDoes t p s w)
  by_cases ha : goodB t p = true ∧ turnB s = true
  · have HY : Hid (now t p s = numW t p s.data.toList) := Lib.hid (by rw [now, if_pos ha])
    have HA : Hid (askT t p s = true) := Lib.hid (by simp [askT, ha])
    have hwd : wdo t p s = (doesL t p s.data.toList, true) := by rw [wdo, if_pos ha]
    rw [hwd] at HD
    rw [numW_lowT] at HY
    obtain ⟨hg, hw⟩ := ha
    obtain ⟨hz0, hz1, hl⟩ := turnB_iff.1 hw
    have hlen : s.data.toList.length = s.size := by simp
    obtain ⟨a0, a1, d0, d1, b0, b1⟩ := doesL_b hg (l := s.data.toList) (by omega)
    have hne := doesL_ne hg (l := s.data.toList) (by omega)
    obtain ⟨a, b, d, hx⟩ : ∃ a b d, doesL t p s.data.toList = (a, b, d) := ⟨_, _, _, rfl⟩
    rw [hx] at HD HY a0 a1 d0 d1 b0 b1 hne
    dsimp only at HD HY a0 a1 d0 d1 b0 b1 hne
    have HLT := Lib.hid (fun w => lowestTerms_any b (d - a) w (by omega) (by omega) (by omega) (by omega) (by omega))
    clear hwd hx hg hw hl hlen
    go_enter Tryd.func6, Tryd.ntmps6
    go_wp2_with fail
    refine (HD.out _).mono ?_
    rintro e w1 ⟨rfl, hb1⟩
    have HB1 := Lib.hid (((Below.refl _ w).alloc (Nat.le_refl _) _).trans (hb1.mono (by simp)))
    clear hb1
    go_wp2_with fail
    refine (HLT.out _).mono ?_
    rintro e w2 ⟨rfl, hb2⟩
    have HB2 := Lib.hid (HB1.out.trans (hb2.mono HB1.out.size))
    clear hb2
    go_wp2_with fail
    go_ret3
    exact ⟨ret_3f HY.out HA.out, HB2.out⟩
  · have HY : Hid (now t p s = (0, 0)) := Lib.hid (by rw [now, if_neg ha])
    have HA : Hid (askT t p s = false) := Lib.hid (by rw [askT]; simpa using ha)
    have hwd : wdo t p s = ((0, 0, 0), false) := by rw [wdo, if_neg ha]
    rw [hwd] at HD
    clear hwd ha
    go_enter Tryd.func6, Tryd.ntmps6
    go_wp2_with fail
    refine (HD.out _).mono ?_
    rintro e w1 ⟨rfl, hb1⟩
    have HB1 := Lib.hid (((Below.refl _ w).alloc (Nat.le_refl _) _).trans (hb1.mono (by simp)))
    clear hb1
    go_wp2_with fail
    go_ret3
    exact ⟨ret_3f HY.out HA.out, HB1.out⟩
end Go.Proofs.YtnhpoefhcngoaaaDoor

namespace Go.Proofs.YtnhpoefhcngoaaaDoor
open Go.RowKit
set_option linter.unusedVariables false

theorem mpShort_huge (t p n : Int) (w : World) (hg : goodB t p = true) (n1 : -100000000000000000 ≤ n) (n2 : n ≤ 100000000000000000) :
    Calls Tryd.prog 52 #[.agg #[.int .i64 t, .int .i64 p], .int .i64 n] w fun e w' => e = .returned (.int .i64 (sx t p n)) ∧ Below w.heap.size w w' := by
  obtain ⟨g1, g2, g3, g4, g5, g6⟩ := goodB_iff.1 hg
  have hm := mul_bound (B := 100000000000000000) g1 g2 (by omega) n2
  have H3 := Lib.hid g3
  have H6 := Lib.hid g6
  clear g3 g6 hg
  go_enter Tryd.func52, Tryd.ntmps52
  go_wp2
  all_goals
    go_ret
  · exact ⟨ret_int (sxe (by assumption)), (Below.refl _ _).alloc (Nat.le_refl _) _⟩
  · exact ⟨ret_int (sxo H3.out H6.out (by assumption)), (Below.refl _ _).alloc (Nat.le_refl _) _⟩

/-- How great the numbers of a cycle word become. -/
theorem itr_huge {t p n : Int} (hg : goodB t p = true) {k : Nat} (hk : k ≤ 10) (h0 : -6973568802 ≤ n) (h1 : n ≤ 6973568802) : -100000000000000000 ≤ itr (sx t p) k n ∧ itr (sx t p) k n ≤ 100000000000000000 := by
  have h := itr_five hg n k
  have h2 : (5 : Int) ^ k ≤ 9765625 := by
    have : ∀ k : Fin 11, (5 : Int) ^ k.val ≤ 9765625 := by decide
    exact this ⟨k, by omega⟩
  have h3 : (0 : Int) < 5 ^ k := Int.pow_pos (by decide)
  have h4 : (5 : Int) ^ k * ((n.natAbs : Int) + 9) ≤ 9765625 * 6973568811 := Int.mul_le_mul h2 (by omega) (by omega) (by decide)
  omega

theorem parB_odd {n : Int} (h : par n = 111) : (n.tmod 2 != 0) = true := by
  rw [oddB_tmod, oddB, decide_eq_true_eq]
  intro e
  rw [par, if_pos e] at h
  cases h
theorem parB_even {n : Int} (h : par n = 101) : (n.tmod 2 != 0) = false := by
  rw [oddB_tmod, oddB, decide_eq_false_iff_not]
  intro e
  rw [par, if_neg e] at h
  cases h
/-- A word's sign at a place. -/
theorem wrd_at {t p n : Int} {s : ByteArray} (h : wrd t p n s.data.toList.length = s.data.toList) {k : Nat} (hk : k < s.size) : par (itr (sx t p) k n) = s[k] := by
  have hk2 : k < s.data.toList.length := by simpa using hk
  have h2 : (wrd t p n s.data.toList.length)[k]? = some (par (itr (sx t p) k n)) := by
    unfold wrd
    rw [List.getElem?_map, List.getElem?_range hk2]; rfl
  rw [h, List.getElem?_eq_getElem hk2] at h2
  exact (Option.some.inj h2).symm

set_option maxRecDepth 100000 in
set_option maxHeartbeats 4000000 in
theorem cyIs_any (t p : Int) (s : ByteArray) (w : World) (hg : goodB t p = true) (hw : turnB s = true) :
    Calls Tryd.prog 32 #[.agg #[.int .i64 t, .int .i64 p], .string s] w fun e w' =>
      e = .returned (.bool (decide ((numW t p s.data.toList).2 = 1))) ∧ Below w.heap.size w w' := by
  have HD := Lib.hid (fun w => cyNumber_any t p s w hg hw)
  obtain ⟨hz0, hz1, hl⟩ := turnB_iff.1 hw
  have hlen : s.data.toList.length = s.size := by simp
  by_cases h1 : (numW t p s.data.toList).2 = 1
  · have hb := numW_b hg (l := s.data.toList) (by omega)
    obtain ⟨c1, c2⟩ := cyc_word hg hl (by omega) h1
    rw [show decide ((numW t p s.data.toList).2 = 1) = true by simpa using h1]
    rw [h1] at HD
    obtain ⟨n, hn⟩ : ∃ n, (numW t p s.data.toList).1 = n := ⟨_, rfl⟩
    rw [hn] at HD hb c1 c2
    rw [hlen] at c2
    have HG := Lib.hid hg
    have HC1 := Lib.hid c1
    have HC2 := Lib.hid c2
    have HL := Lib.hid hl
    have HBD := Lib.hid hb
    have hz2 : (s.size : Int) ≤ 10 := by omega
    clear hg hw hl hlen h1 hn c1 c2 hb
    go_enter Tryd.func32, Tryd.ntmps32
    go_wp2_with fail
    refine (HD.out _).mono ?_
    rintro e w1 ⟨rfl, hb1⟩
    obtain ⟨c0, c1, hz, hb⟩ := map_block hb1
    have HB1 := Lib.hid hb
    clear hb1 hb
    go_wp2_with fail
    go_loopw [8, 9] (fun x i wr => ∃ pos : Nat, pos ≤ s.size ∧ i = .int .i64 pos ∧ x = .int .i64 (itr (sx t p) pos n) ∧ wr.cell? ⟨w.heap.size, 0, none⟩ = some (.int .i64 t) ∧ wr.cell? ⟨w.heap.size, 1, none⟩ = some (.int .i64 p) ∧ w.heap.size < wr.heap.size ∧ Below w.heap.size w wr) (fun _ i _ => s.size - (intOf i).toNat)
    case atStart => exact ⟨0, Nat.zero_le _, rfl, rfl, c0, c1, hz, HB1.out⟩
    case round =>
      clear c0 c1 hz
      obtain ⟨pos, hp, rfl, rfl, c0, c1, hz, hbel⟩ := hrel
      have HB := Lib.hid hbel
      clear hbel
      by_cases hlt : pos < s.size
      · have hix := fun w => run_at w s pos hlt
        have hlt2 : (pos : Int) < s.size := by omega
        have hpar := wrd_at HC1.out hlt
        have hv := itr_huge HG.out (k := pos) (by omega) HBD.out.1 HBD.out.2
        have hsx := itr_succ (sx t p) pos n
        obtain ⟨v, hvv⟩ : ∃ v, itr (sx t p) pos n = v := ⟨_, rfl⟩
        rw [hvv] at hpar hv hsx ⊢
        have HSX := Lib.hid hsx
        have HMS := Lib.hid (fun w => mpShort_huge t p v w HG.out hv.1 hv.2)
        obtain ⟨v1, v2⟩ := hv
        have hsg := HL.out s[pos] (List.getElem_mem (l := s.data.toList) (n := pos) (by simpa using hlt))
        clear hvv hsx
        by_cases hc : s[pos] = 111
        · have n1 : s[pos].toNat = 111 := by rw [hc]; rfl
          have hodd := parB_odd (hpar.trans hc)
          simp only [n1] at hix
          clear hc hsg n1 hpar
          go_wp2_with fail
          refine (HMS.out _).mono ?_
          rintro e w3 ⟨rfl, hb3⟩
          have d0 := kept_cell hb3 hz c0
          have d1 := kept_cell hb3 hz c1
          have hz3 := Nat.lt_of_lt_of_le hz hb3.size
          have HB3 := Lib.hid (HB.out.trans (hb3.mono (Nat.le_of_lt hz)))
          clear hb3 c0 c1
          go_wp2_with fail
          exact ⟨⟨pos + 1, hlt, by go_num, by rw [HSX.out], d0, d1, hz3, HB3.out⟩, by simp [intOf]; omega⟩
        · have hc2 : s[pos] = 101 := hsg.resolve_left hc
          have n1 : s[pos].toNat = 101 := by rw [hc2]; rfl
          have hodd := parB_even (hpar.trans hc2)
          simp only [n1] at hix
          clear hc hc2 hsg n1 hpar
          go_wp2_with fail
          refine (HMS.out _).mono ?_
          rintro e w3 ⟨rfl, hb3⟩
          have d0 := kept_cell hb3 hz c0
          have d1 := kept_cell hb3 hz c1
          have hz3 := Nat.lt_of_lt_of_le hz hb3.size
          have HB3 := Lib.hid (HB.out.trans (hb3.mono (Nat.le_of_lt hz)))
          clear hb3 c0 c1
          go_wp2_with fail
          exact ⟨⟨pos + 1, hlt, by go_num, by rw [HSX.out], d0, d1, hz3, HB3.out⟩, by simp [intOf]; omega⟩
      · obtain rfl : pos = s.size := by omega
        rw [HC2.out]
        have hlt2 : ¬ ((s.size : Int) < s.size) := by omega
        go_wp2_with fail
        go_ret
        exact ⟨rfl, HB.out⟩
  · rw [show decide ((numW t p s.data.toList).2 = 1) = false by simpa using h1]
    have hne : ((numW t p s.data.toList).2 != 1) = true := by simpa using h1
    obtain ⟨x, hx⟩ : ∃ x, numW t p s.data.toList = x := ⟨_, rfl⟩
    obtain ⟨num, den⟩ := x
    rw [hx] at HD hne
    dsimp only at HD hne
    clear hg hw hl hlen h1 hx
    go_enter Tryd.func32, Tryd.ntmps32
    go_wp2_with fail
    refine (HD.out _).mono ?_
    rintro e w1 ⟨rfl, hb1⟩
    have HB1 := Lib.hid (((Below.refl _ w).alloc (Nat.le_refl _) _).trans (hb1.mono (by simp)))
    clear hb1
    go_wp2_with fail
    go_ret
    exact ⟨rfl, HB1.out⟩

/-- What IsCycleWord comes to. -/
def cwB (t p : Int) (s : ByteArray) : Bool := decide ((now t p s).2 = 1)
theorem ret_2b {x y a b : Bool} (h : x = y) (h' : a = b) : Ending.returned (.tuple #[.bool x, .bool a]) = .returned (.tuple #[.bool y, .bool b]) := by rw [h, h']

set_option maxHeartbeats 1000000 in
theorem sIsCycleWord (t p : Int) (s : ByteArray) (w : World) :
    Calls Tryd.prog 9 #[.agg #[.int .i64 t, .int .i64 p], .string s] w fun e w' =>
      e = .returned (.tuple #[.bool (cwB t p s), .bool (askT t p s)]) ∧ Below w.heap.size w w' := by
  have HM := Lib.hid (fun w => mpGood_any t p w)
  have HW := Lib.hid (fun w => cyWord_any s w)
  cases hg : goodB t p
  · have HY : Hid (cwB t p s = false) := Lib.hid (by rw [cwB, now, if_neg (by simp [hg])]; rfl)
    have HA : Hid (askT t p s = false) := Lib.hid (by simp [askT, hg])
    rw [hg] at HM
    clear hg
    go_enter Tryd.func9, Tryd.ntmps9
    go_wp2_with fail
    refine (HM.out _).mono ?_
    rintro e w1 ⟨rfl, hb1⟩
    obtain ⟨c0, c1, hz, hb⟩ := map_block hb1
    clear hb1
    go_wp2_with fail
    go_ret2
    exact ⟨ret_2b HY.out.symm HA.out.symm, hb⟩
  · cases hw : turnB s
    · have HY : Hid (cwB t p s = false) := Lib.hid (by rw [cwB, now, if_neg (by simp [hw])]; rfl)
      have HA : Hid (askT t p s = false) := Lib.hid (by simp [askT, hw])
      rw [hg] at HM
      rw [hw] at HW
      clear hg hw
      go_enter Tryd.func9, Tryd.ntmps9
      go_wp2_with fail
      refine (HM.out _).mono ?_
      rintro e w1 ⟨rfl, hb1⟩
      obtain ⟨c0, c1, hz, hb⟩ := map_block hb1
      clear hb1
      go_wp2_with (go_at_call 28; refine (HW.out _).mono ?_; rintro e w' ⟨rfl, rfl⟩)
      go_ret2
      exact ⟨ret_2b HY.out.symm HA.out.symm, hb⟩
    · have HY : Hid (cwB t p s = decide ((numW t p s.data.toList).2 = 1)) := Lib.hid (by rw [cwB, now, if_pos ⟨hg, hw⟩])
      have HA : Hid (askT t p s = true) := Lib.hid (by simp [askT, hg, hw])
      have HD := Lib.hid (fun w => cyIs_any t p s w hg hw)
      rw [← HY.out] at HD
      rw [hg] at HM
      rw [hw] at HW
      clear hg hw
      go_enter Tryd.func9, Tryd.ntmps9
      go_wp2_with fail
      refine (HM.out _).mono ?_
      rintro e w1 ⟨rfl, hb1⟩
      obtain ⟨c0, c1, hz, hb⟩ := map_block hb1
      clear hb1
      go_wp2_with (go_at_call 28; refine (HW.out _).mono ?_; rintro e w' ⟨rfl, rfl⟩)
      refine (HD.out _).mono ?_
      rintro e w2 ⟨rfl, hb2⟩
      have HB := Lib.hid (hb.trans (hb2.mono (Nat.le_of_lt hz)))
      clear hb2 hb c0 c1
      go_wp2_with fail
      go_ret2
      exact ⟨ret_2b rfl HA.out.symm, HB.out⟩

set_option maxHeartbeats 1000000 in
theorem iIsCycleWord (t p : Int) (s : ByteArray) (w : World) :
    Calls Tryd.prog 8 #[.agg #[.int .i64 t, .int .i64 p], .string s] w fun e w' =>
      e = .returned (.tuple #[.bool (cwB t p s), .bool (askT t p s)]) ∧ Below w.heap.size w w' := by
  have HD := Lib.hid (fun w => iNumberOfWord t p s w)
  have HY : Hid (cwB t p s = ((now t p s).2 == 1)) := Lib.hid (by unfold cwB; rw [Bool.eq_iff_iff]; simp)
  generalize now t p s = x at HD HY
  obtain ⟨num, den⟩ := x
  dsimp only at HD HY
  go_enter Tryd.func8, Tryd.ntmps8
  go_wp2_with fail
  refine (HD.out _).mono ?_
  rintro e w1 ⟨rfl, hb1⟩
  have HB1 := Lib.hid (((Below.refl _ w).alloc (Nat.le_refl _) _).trans (hb1.mono (by simp)))
  clear hb1
  go_wp2_with fail
  go_ret2
  exact ⟨ret_2b HY.out.symm rfl, HB1.out⟩
end Go.Proofs.YtnhpoefhcngoaaaDoor
