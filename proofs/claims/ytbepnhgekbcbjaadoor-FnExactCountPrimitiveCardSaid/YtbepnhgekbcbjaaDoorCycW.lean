/-
  WHICH WORDS ARE CYCLE WORDS: 'cyIs' of the model, 'IsCycleWord' of both.
-/
import Derived.Test.YtbepnhgekbcbjaaDoorNumW
namespace Go.Proofs.YtbepnhgekbcbjaaDoor
open Go.RowKit
set_option linter.unusedVariables false

theorem mpShort_huge (t p n : Int) (w : World) (hg : goodB t p = true) (n1 : -100000000000000000 ≤ n) (n2 : n ≤ 100000000000000000) :
    Calls Tryd.prog 39 #[.agg #[.int .i64 t, .int .i64 p], .int .i64 n] w fun e w' => e = .returned (.int .i64 (sx t p n)) ∧ Below w.heap.size w w' := by
  obtain ⟨g1, g2, g3, g4, g5, g6⟩ := goodB_iff.1 hg
  have hm := mul_bound (B := 100000000000000000) g1 g2 (by omega) n2
  have H3 := Lib.hid g3
  have H6 := Lib.hid g6
  clear g3 g6 hg
  go_enter Tryd.func39, Tryd.ntmps39
  go_wp2
  all_goals
    go_ret
  · exact ⟨ret_int (sxe (by assumption)), (Below.refl _ _).alloc (Nat.le_refl _) _⟩
  · exact ⟨ret_int (sxo H3.out H6.out (by assumption)), (Below.refl _ _).alloc (Nat.le_refl _) _⟩

/-- How great the numbers of a cycle word become. -/
theorem itr_huge {t p n : Int} (hg : goodB t p = true) {k : Nat} (hk : k ≤ 10) (h0 : -6973568802 ≤ n) (h1 : n ≤ 6973568802) : -100000000000000000 ≤ itr (sx t p) k n ∧ itr (sx t p) k n ≤ 100000000000000000 := by
  have h := itr_five hg n k
  have h2 : (5 : Int) ^ k ≤ 9765625 := by
    have : ∀ k : Fin 11, (5 : Int) ^ k.val ≤ 9765625 := by decide
    exact this ⟨k, by omega⟩
  have h3 : (0 : Int) < 5 ^ k := Int.pow_pos (by decide)
  have h4 : (5 : Int) ^ k * ((n.natAbs : Int) + 9) ≤ 9765625 * 6973568811 := Int.mul_le_mul h2 (by omega) (by omega) (by decide)
  omega

theorem parB_odd {n : Int} (h : par n = 111) : (n.tmod 2 != 0) = true := by
  rw [oddB_tmod, oddB, decide_eq_true_eq]
  intro e
  rw [par, if_pos e] at h
  cases h
theorem parB_even {n : Int} (h : par n = 101) : (n.tmod 2 != 0) = false := by
  rw [oddB_tmod, oddB, decide_eq_false_iff_not]
  intro e
  rw [par, if_neg e] at h
  cases h
/-- A word's sign at a place. -/
theorem wrd_at {t p n : Int} {s : ByteArray} (h : wrd t p n s.data.toList.length = s.data.toList) {k : Nat} (hk : k < s.size) : par (itr (sx t p) k n) = s[k] := by
  have hk2 : k < s.data.toList.length := by simpa using hk
  have h2 : (wrd t p n s.data.toList.length)[k]? = some (par (itr (sx t p) k n)) := by
    unfold wrd
    rw [List.getElem?_map, List.getElem?_range hk2]; rfl
  rw [h, List.getElem?_eq_getElem hk2] at h2
  exact (Option.some.inj h2).symm

set_option maxRecDepth 100000 in
set_option maxHeartbeats 4000000 in
theorem cyIs_any (t p : Int) (s : ByteArray) (w : World) (hg : goodB t p = true) (hw : turnB s = true) :
    Calls Tryd.prog 28 #[.agg #[.int .i64 t, .int .i64 p], .string s] w fun e w' =>
      e = .returned (.bool (decide ((numW t p s.data.toList).2 = 1))) ∧ Below w.heap.size w w' := by
  have HD := Lib.hid (fun w => cyNumber_any t p s w hg hw)
  obtain ⟨hz0, hz1, hl⟩ := turnB_iff.1 hw
  have hlen : s.data.toList.length = s.size := by simp
  by_cases h1 : (numW t p s.data.toList).2 = 1
  · have hb := numW_b hg (l := s.data.toList) (by omega)
    obtain ⟨c1, c2⟩ := cyc_word hg hl (by omega) h1
    rw [show decide ((numW t p s.data.toList).2 = 1) = true by simpa using h1]
    rw [h1] at HD
    obtain ⟨n, hn⟩ : ∃ n, (numW t p s.data.toList).1 = n := ⟨_, rfl⟩
    rw [hn] at HD hb c1 c2
    rw [hlen] at c2
    have HG := Lib.hid hg
    have HC1 := Lib.hid c1
    have HC2 := Lib.hid c2
    have HL := Lib.hid hl
    have HBD := Lib.hid hb
    have hz2 : (s.size : Int) ≤ 10 := by omega
    clear hg hw hl hlen h1 hn c1 c2 hb
    go_enter Tryd.func28, Tryd.ntmps28
    go_wp2_with fail
    refine (HD.out _).mono ?_
    rintro e w1 ⟨rfl, hb1⟩
    obtain ⟨c0, c1, hz, hb⟩ := map_block hb1
    have HB1 := Lib.hid hb
    clear hb1 hb
    go_wp2_with fail
    go_loopw [8, 9] (fun x i wr => ∃ pos : Nat, pos ≤ s.size ∧ i = .int .i64 pos ∧ x = .int .i64 (itr (sx t p) pos n) ∧ wr.cell? ⟨w.heap.size, 0, none⟩ = some (.int .i64 t) ∧ wr.cell? ⟨w.heap.size, 1, none⟩ = some (.int .i64 p) ∧ w.heap.size < wr.heap.size ∧ Below w.heap.size w wr) (fun _ i _ => s.size - (intOf i).toNat)
    case atStart => exact ⟨0, Nat.zero_le _, rfl, rfl, c0, c1, hz, HB1.out⟩
    case round =>
      clear c0 c1 hz
      obtain ⟨pos, hp, rfl, rfl, c0, c1, hz, hbel⟩ := hrel
      have HB := Lib.hid hbel
      clear hbel
      by_cases hlt : pos < s.size
      · have hix := fun w => run_at w s pos hlt
        have hlt2 : (pos : Int) < s.size := by omega
        have hpar := wrd_at HC1.out hlt
        have hv := itr_huge HG.out (k := pos) (by omega) HBD.out.1 HBD.out.2
        have hsx := itr_succ (sx t p) pos n
        obtain ⟨v, hvv⟩ : ∃ v, itr (sx t p) pos n = v := ⟨_, rfl⟩
        rw [hvv] at hpar hv hsx ⊢
        have HSX := Lib.hid hsx
        have HMS := Lib.hid (fun w => mpShort_huge t p v w HG.out hv.1 hv.2)
        obtain ⟨v1, v2⟩ := hv
        have hsg := HL.out s[pos] (List.getElem_mem (l := s.data.toList) (n := pos) (by simpa using hlt))
        clear hvv hsx
        by_cases hc : s[pos] = 111
        · have n1 : s[pos].toNat = 111 := by rw [hc]; rfl
          have hodd := parB_odd (hpar.trans hc)
          simp only [n1] at hix
          clear hc hsg n1 hpar
          go_wp2_with fail
          refine (HMS.out _).mono ?_
          rintro e w3 ⟨rfl, hb3⟩
          have d0 := kept_cell hb3 hz c0
          have d1 := kept_cell hb3 hz c1
          have hz3 := Nat.lt_of_lt_of_le hz hb3.size
          have HB3 := Lib.hid (HB.out.trans (hb3.mono (Nat.le_of_lt hz)))
          clear hb3 c0 c1
          go_wp2_with fail
          exact ⟨⟨pos + 1, hlt, by go_num, by rw [HSX.out], d0, d1, hz3, HB3.out⟩, by simp [intOf]; omega⟩
        · have hc2 : s[pos] = 101 := hsg.resolve_left hc
          have n1 : s[pos].toNat = 101 := by rw [hc2]; rfl
          have hodd := parB_even (hpar.trans hc2)
          simp only [n1] at hix
          clear hc hc2 hsg n1 hpar
          go_wp2_with fail
          refine (HMS.out _).mono ?_
          rintro e w3 ⟨rfl, hb3⟩
          have d0 := kept_cell hb3 hz c0
          have d1 := kept_cell hb3 hz c1
          have hz3 := Nat.lt_of_lt_of_le hz hb3.size
          have HB3 := Lib.hid (HB.out.trans (hb3.mono (Nat.le_of_lt hz)))
          clear hb3 c0 c1
          go_wp2_with fail
          exact ⟨⟨pos + 1, hlt, by go_num, by rw [HSX.out], d0, d1, hz3, HB3.out⟩, by simp [intOf]; omega⟩
      · obtain rfl : pos = s.size := by omega
        rw [HC2.out]
        have hlt2 : ¬ ((s.size : Int) < s.size) := by omega
        go_wp2_with fail
        go_ret
        exact ⟨rfl, HB.out⟩
  · rw [show decide ((numW t p s.data.toList).2 = 1) = false by simpa using h1]
    have hne : ((numW t p s.data.toList).2 != 1) = true := by simpa using h1
    obtain ⟨x, hx⟩ : ∃ x, numW t p s.data.toList = x := ⟨_, rfl⟩
    obtain ⟨num, den⟩ := x
    rw [hx] at HD hne
    dsimp only at HD hne
    clear hg hw hl hlen h1 hx
    go_enter Tryd.func28, Tryd.ntmps28
    go_wp2_with fail
    refine (HD.out _).mono ?_
    rintro e w1 ⟨rfl, hb1⟩
    have HB1 := Lib.hid (((Below.refl _ w).alloc (Nat.le_refl _) _).trans (hb1.mono (by simp)))
    clear hb1
    go_wp2_with fail
    go_ret
    exact ⟨rfl, HB1.out⟩

/-- What IsCycleWord comes to. -/
def cwB (t p : Int) (s : ByteArray) : Bool := decide ((now t p s).2 = 1)
theorem ret_2b {x y a b : Bool} (h : x = y) (h' : a = b) : Ending.returned (.tuple #[.bool x, .bool a]) = .returned (.tuple #[.bool y, .bool b]) := by rw [h, h']

set_option maxHeartbeats 1000000 in
theorem iIsCycleWord (t p : Int) (s : ByteArray) (w : World) :
    Calls Tryd.prog 22 #[.agg #[.int .i64 t, .int .i64 p], .string s] w fun e w' =>
      e = .returned (.tuple #[.bool (cwB t p s), .bool (askT t p s)]) ∧ Below w.heap.size w w' := by
  have HD := Lib.hid (fun w => iNumberOfWord t p s w)
  have HY : Hid (cwB t p s = ((now t p s).2 == 1)) := Lib.hid (by unfold cwB; rw [Bool.eq_iff_iff]; simp)
  generalize now t p s = x at HD HY
  obtain ⟨num, den⟩ := x
  dsimp only at HD HY
  go_enter Tryd.func22, Tryd.ntmps22
  go_wp2_with fail
  refine (HD.out _).mono ?_
  rintro e w1 ⟨rfl, hb1⟩
  have HB1 := Lib.hid (((Below.refl _ w).alloc (Nat.le_refl _) _).trans (hb1.mono (by simp)))
  clear hb1
  go_wp2_with fail
  go_ret2
  exact ⟨ret_2b HY.out.symm rfl, HB1.out⟩
end Go.Proofs.YtbepnhgekbcbjaaDoor
