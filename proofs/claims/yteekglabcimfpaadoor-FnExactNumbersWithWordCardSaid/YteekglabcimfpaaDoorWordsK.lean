/-
  'ResidueOfWord', 'BehindWord', 'NumberBehind', 'JoinResidue' of both.
-/
import Derived.Test.YteekglabcimfpaaDoorKin
import Derived.Laws.IdiomStrings
import Derived.OwnWalk
import Derived.Outline
namespace Go.Proofs.YteekglabcimfpaaDoor
open Go.RowKit
set_option linter.unusedVariables false

theorem ret_ib {x y : Int} {a b : Bool} (h : x = y) (h' : a = b) : Ending.returned (.tuple #[.int .i64 x, .bool a]) = .returned (.tuple #[.int .i64 y, .bool b]) := by rw [h, h']
theorem ret_iib {x y x' y' : Int} {a b : Bool} (h : x = y) (h2 : x' = y') (h' : a = b) : Ending.returned (.tuple #[.int .i64 x, .int .i64 x', .bool a]) = .returned (.tuple #[.int .i64 y, .int .i64 y', .bool b]) := by rw [h, h2, h']
theorem knW_yes {t p : Int} {s : ByteArray} (h : askW t p s = true) : knW t p s = ((lin t p s.data.toList s.size).2.2, (lin t p s.data.toList s.size).1, (lin t p s.data.toList s.size).2.1) := by rw [knW, if_pos h]
theorem knW_no {t p : Int} {s : ByteArray} (h : askW t p s = false) : knW t p s = (0, 0, 0) := by rw [knW, if_neg (by simp [h])]
/-- The numbers of a word are small, if there is one. -/
theorem knW_small {t p : Int} {s : ByteArray} (h : askW t p s = true) : Small t p (knW t p s).2.1 (knW t p s).2.2 (knW t p s).1 := by
  obtain ⟨hg, hw⟩ := askW_iff.1 h
  obtain ⟨hz, hl⟩ := wordB_iff.1 hw
  rw [knW_yes h]
  exact lin_small hg hl (by simp) hz rfl
/-- What the program lays in a block of three. -/
theorem kin_block {w w1 : World} {a b : Value} {T : TypeId} (hb : Below (w.alloc (.cells #[a, b] T)).heap.size (w.alloc (.cells #[a, b] T)) w1) : Below w.heap.size w w1 ∧ w.heap.size < w1.heap.size :=
  ⟨((Below.refl _ w).alloc (Nat.le_refl _) _).trans (hb.mono (by simp)), by have := hb.size; simp at this; omega⟩

theorem iResidueOfWord (t p : Int) (s : ByteArray) (w : World) (htab : Tab w) :
    Calls Tryd.prog 12 #[.agg #[.int .i64 t, .int .i64 p], .string s] w fun e w' => e = .returned (.tuple #[.int .i64 (knW t p s).1, .bool (askW t p s)]) ∧ Below w.heap.size w w' := by
  have HK := Lib.hid (fun w (h : Tab w) => kinOf_any t p s w h)
  have HT := Lib.hid htab
  generalize knW t p s = x at HK ⊢
  obtain ⟨r, a, b⟩ := x
  clear htab
  go_enter Tryd.func12, Tryd.ntmps12
  go_wp2_with fail
  refine (HK.out _ (tab_below HT.out ((Below.refl _ w).alloc (Nat.le_refl _) _) (Nat.le_refl _))).mono ?_
  rintro e w1 ⟨rfl, hb1⟩
  obtain ⟨hb, hz⟩ := kin_block hb1
  clear hb1
  go_wp2_with fail
  go_ret2
  exact ⟨rfl, hb.alloc (Nat.le_of_lt hz) _⟩

theorem sResidueOfWord (t p : Int) (s : ByteArray) (w : World) :
    Calls Tryd.prog 10 #[.agg #[.int .i64 t, .int .i64 p], .string s] w fun e w' => e = .returned (.tuple #[.int .i64 (knW t p s).1, .bool (askW t p s)]) ∧ Below w.heap.size w w' := by
  have HA := Lib.hid (fun w => woAsked_any t p s w)
  by_cases h : askW t p s = true
  · rw [h] at HA
    obtain ⟨hg, hw⟩ := askW_iff.1 h
    have HL := Lib.hid (fun w => woLine_any t p s w hg hw)
    have HY := Lib.hid (knW_yes h)
    have HH := Lib.hid h
    clear h hg hw
    generalize lin t p s.data.toList s.size = x at HL HY
    obtain ⟨a, b, r⟩ := x
    go_enter Tryd.func10, Tryd.ntmps10
    go_wp2_with fail
    refine (HA.out _).mono ?_
    rintro e w1 ⟨rfl, hb1⟩
    obtain ⟨c0, c1, hz, hb⟩ := map_block hb1
    clear hb1
    go_wp2_with fail
    refine (HL.out _).mono ?_
    rintro e w2 ⟨rfl, hb2⟩
    have HB := Lib.hid (hb.trans (hb2.mono (Nat.le_of_lt hz)))
    clear hb2 hb c0 c1
    go_wp2_with fail
    go_ret2
    exact ⟨ret_ib (by rw [HY.out]) HH.out.symm, HB.out⟩
  · have h' : askW t p s = false := by simpa using h
    rw [h'] at HA
    have HY := Lib.hid (knW_no h')
    have HH := Lib.hid h'
    clear h h'
    go_enter Tryd.func10, Tryd.ntmps10
    go_wp2_with fail
    refine (HA.out _).mono ?_
    rintro e w1 ⟨rfl, hb1⟩
    obtain ⟨c0, c1, hz, hb⟩ := map_block hb1
    clear hb1
    go_wp2_with fail
    go_ret2
    exact ⟨ret_ib (by rw [HY.out]) HH.out.symm, hb⟩

/-- a and b of a word, if there are a map and a word and they are numbers. -/
def bhW (t p : Int) (s : ByteArray) : Int × Int × Bool := if askW t p s = true ∧ numB (knW t p s).2.1 = true ∧ numB (knW t p s).2.2 = true then ((knW t p s).2.1, (knW t p s).2.2, true) else (0, 0, false)

theorem iBehindWord (t p : Int) (s : ByteArray) (w : World) (htab : Tab w) :
    Calls Tryd.prog 21 #[.agg #[.int .i64 t, .int .i64 p], .string s] w fun e w' => e = .returned (.tuple #[.int .i64 (bhW t p s).1, .int .i64 (bhW t p s).2.1, .bool (bhW t p s).2.2]) ∧ Below w.heap.size w w' := by
  have HK := Lib.hid (fun w (h : Tab w) => kinOf_any t p s w h)
  have HT := Lib.hid htab
  have hd : bhW t p s = if askW t p s = true ∧ numB (knW t p s).2.1 = true ∧ numB (knW t p s).2.2 = true then ((knW t p s).2.1, (knW t p s).2.2, true) else (0, 0, false) := rfl
  generalize bhW t p s = y at hd ⊢
  generalize knW t p s = x at HK hd
  generalize askW t p s = c at HK hd
  obtain ⟨r, a, b⟩ := x
  have HD := Lib.hid hd
  clear htab hd
  cases hc : c <;> cases ha : numB a <;> cases hbb : numB b
  all_goals
    subst hc
    have HY : Hid (y = _) := Lib.hid (by have := HD.out; simpa [ha, hbb] using this)
    clear HD
    go_enter Tryd.func21, Tryd.ntmps21
    go_wp2_with fail
    refine (HK.out _ (tab_below HT.out ((Below.refl _ w).alloc (Nat.le_refl _) _) (Nat.le_refl _))).mono ?_
    rintro e w1 ⟨rfl, hb1⟩
    obtain ⟨hb, hz⟩ := kin_block hb1
    clear hb1
    go_wp2_with (go_at_call 35; refine (isNumber_any _ _).mono ?_; rintro e w' ⟨rfl, rfl⟩)
    try (go_region; go_wp2_with fail)
    go_ret3
    exact ⟨ret_iib (by rw [HY.out]) (by rw [HY.out]) (by rw [HY.out]), by first | exact hb.alloc (Nat.le_of_lt hz) _ | exact (hb.alloc (Nat.le_of_lt hz) _).drew⟩

theorem sBehindWord (t p : Int) (s : ByteArray) (w : World) :
    Calls Tryd.prog 20 #[.agg #[.int .i64 t, .int .i64 p], .string s] w fun e w' => e = .returned (.tuple #[.int .i64 (bhW t p s).1, .int .i64 (bhW t p s).2.1, .bool (bhW t p s).2.2]) ∧ Below w.heap.size w w' := by
  have HA := Lib.hid (fun w => woAsked_any t p s w)
  by_cases h : askW t p s = true
  · rw [h] at HA
    obtain ⟨hg, hw⟩ := askW_iff.1 h
    have HL := Lib.hid (fun w => woLine_any t p s w hg hw)
    have HY := Lib.hid (knW_yes h)
    have hd : bhW t p s = if askW t p s = true ∧ numB (knW t p s).2.1 = true ∧ numB (knW t p s).2.2 = true then ((knW t p s).2.1, (knW t p s).2.2, true) else (0, 0, false) := rfl
    rw [HY.out, h] at hd
    clear hg hw h HY
    generalize bhW t p s = y at hd ⊢
    generalize lin t p s.data.toList s.size = x at HL hd
    obtain ⟨a, b, r⟩ := x
    have HD := Lib.hid hd
    clear hd
    cases ha : numB a <;> cases hbb : numB b
    all_goals
      have HY : Hid (y = _) := Lib.hid (by have := HD.out; simpa [ha, hbb] using this)
      clear HD
      go_enter Tryd.func20, Tryd.ntmps20
      go_wp2_with fail
      refine (HA.out _).mono ?_
      rintro e w1 ⟨rfl, hb1⟩
      obtain ⟨c0, c1, hz, hb⟩ := map_block hb1
      clear hb1
      go_wp2_with fail
      refine (HL.out _).mono ?_
      rintro e w2 ⟨rfl, hb2⟩
      have HB := Lib.hid (hb.trans (hb2.mono (Nat.le_of_lt hz)))
      clear hb2 hb c0 c1
      go_wp2_with (go_at_call 32; refine (mpIs_any _ _).mono ?_; rintro e w' ⟨rfl, rfl⟩)
      go_ret3
      exact ⟨ret_iib (by rw [HY.out]) (by rw [HY.out]) (by rw [HY.out]), HB.out⟩
  · have h' : askW t p s = false := by simpa using h
    rw [h'] at HA
    have HY : Hid (bhW t p s = (0, 0, false)) := Lib.hid (by rw [bhW, if_neg (by simp [h'])])
    clear h h'
    go_enter Tryd.func20, Tryd.ntmps20
    go_wp2_with fail
    refine (HA.out _).mono ?_
    rintro e w1 ⟨rfl, hb1⟩
    obtain ⟨c0, c1, hz, hb⟩ := map_block hb1
    clear hb1
    go_wp2_with fail
    go_ret3
    exact ⟨ret_iib (by rw [HY.out]) (by rw [HY.out]) (by rw [HY.out]), hb⟩

/-- What a number of a word becomes. -/
def nbW (t p : Int) (s : ByteArray) (k : Int) : Int × Bool :=
  if askW t p s = true ∧ inB k (-1000) 1000 = true ∧ numB ((knW t p s).2.1 * k + (knW t p s).2.2) = true then ((knW t p s).2.1 * k + (knW t p s).2.2, true) else (0, false)
theorem mul_k {a k : Int} (a0 : 0 < a) (a1 : a ≤ 205891132094649) (k0 : -1000 ≤ k) (k1 : k ≤ 1000) : -205891132094649000 ≤ a * k ∧ a * k ≤ 205891132094649000 := by
  have h1 : a * k ≤ a * 1000 := Int.mul_le_mul_of_nonneg_left k1 (by omega)
  have h2 : a * (-1000) ≤ a * k := Int.mul_le_mul_of_nonneg_left k0 (by omega)
  omega
theorem mpOne_w (n : Int) (w : World) :
    Calls Tryd.prog 38 #[.int .i64 n] w fun e w' => e = .returned (.tuple #[.int .i64 (if numB n = true then n else 0), .bool (numB n)]) ∧ w = w' := by
  by_cases h : numB n = true
  · go_enter Tryd.func38, Tryd.ntmps38
    go_wp2_with (go_at_call 32; refine (mpIs_any _ _).mono ?_; rintro e w' ⟨rfl, rfl⟩)
    go_ret2
    exact ⟨by simp, rfl⟩
  · have h' : numB n = false := by simpa using h
    go_enter Tryd.func38, Tryd.ntmps38
    go_wp2_with (go_at_call 32; refine (mpIs_any _ _).mono ?_; rintro e w' ⟨rfl, rfl⟩)
    go_ret2
    exact ⟨by simp, rfl⟩

set_option maxHeartbeats 1000000 in
theorem iNumberBehind (t p : Int) (s : ByteArray) (k : Int) (w : World) (htab : Tab w) :
    Calls Tryd.prog 23 #[.agg #[.int .i64 t, .int .i64 p], .string s, .int .i64 k] w fun e w' => e = .returned (.tuple #[.int .i64 (nbW t p s k).1, .bool (nbW t p s k).2]) ∧ Below w.heap.size w w' := by
  have HK := Lib.hid (fun w (h : Tab w) => kinOf_any t p s w h)
  have HT := Lib.hid htab
  have hsm := fun h => knW_small (t := t) (p := p) (s := s) h
  have hd : nbW t p s k = if askW t p s = true ∧ inB k (-1000) 1000 = true ∧ numB ((knW t p s).2.1 * k + (knW t p s).2.2) = true then ((knW t p s).2.1 * k + (knW t p s).2.2, true) else (0, false) := rfl
  generalize nbW t p s k = y at hd ⊢
  generalize knW t p s = x at HK hd hsm
  generalize askW t p s = c at HK hd hsm
  obtain ⟨r, a, b⟩ := x
  dsimp only at hd hsm
  clear htab
  have fin : ∀ (e : Ending) (w1 w' : World), Below w.heap.size w w' → e = .returned (.tuple #[.int .i64 y.1, .bool y.2]) → e = .returned (.tuple #[.int .i64 y.1, .bool y.2]) ∧ Below w.heap.size w w' := fun _ _ _ h1 h2 => ⟨h2, h1⟩
  clear fin
  cases hc : c
  · have HY : Hid (y = (0, false)) := Lib.hid (by rw [hd, hc]; simp)
    subst hc
    clear hd hsm
    go_enter Tryd.func23, Tryd.ntmps23
    go_wp2_with fail
    refine (HK.out _ (tab_below HT.out ((Below.refl _ w).alloc (Nat.le_refl _) _) (Nat.le_refl _))).mono ?_
    rintro e w1 ⟨rfl, hb1⟩
    obtain ⟨hb, hz⟩ := kin_block hb1
    clear hb1
    go_wp2_with fail
    go_ret2
    exact ⟨ret_ib (by rw [HY.out]; try rfl) (by rw [HY.out]), hb.alloc (Nat.le_of_lt hz) _⟩
  · by_cases h1 : -1000 ≤ k
    · by_cases h2 : k ≤ 1000
      · have SM := hsm hc
        obtain ⟨a0, a1, b0, b1, r0, r1, _⟩ := SM
        have hmk := mul_k a0 a1 h1 h2
        cases hnn : numB (a * k + b)
        all_goals
          have HY : Hid (y = (if numB (a * k + b) = true then a * k + b else 0, numB (a * k + b))) := Lib.hid (by rw [hd, hc]; simp [hnn, inB, h1, h2])
          rw [hnn] at HY
          subst hc
          clear hd hsm
          go_enter Tryd.func23, Tryd.ntmps23
          go_wp2_with fail
          refine (HK.out _ (tab_below HT.out ((Below.refl _ w).alloc (Nat.le_refl _) _) (Nat.le_refl _))).mono ?_
          rintro e w1 ⟨rfl, hb1⟩
          obtain ⟨hb, hz⟩ := kin_block hb1
          clear hb1
          go_wp2_with (go_at_call 35; refine (isNumber_any _ _).mono ?_; rintro e w' ⟨rfl, rfl⟩)
          go_ret2
          exact ⟨ret_ib (by rw [HY.out]; try rfl) (by rw [HY.out]), hb.alloc (Nat.le_of_lt hz) _⟩
      · have HY : Hid (y = (0, false)) := Lib.hid (by rw [hd, if_neg (by simp [inB]; omega)])
        subst hc
        clear hd hsm
        go_enter Tryd.func23, Tryd.ntmps23
        go_wp2_with fail
        refine (HK.out _ (tab_below HT.out ((Below.refl _ w).alloc (Nat.le_refl _) _) (Nat.le_refl _))).mono ?_
        rintro e w1 ⟨rfl, hb1⟩
        obtain ⟨hb, hz⟩ := kin_block hb1
        clear hb1
        go_wp2_with fail
        go_ret2
        exact ⟨ret_ib (by rw [HY.out]; try rfl) (by rw [HY.out]), hb.alloc (Nat.le_of_lt hz) _⟩
    · have HY : Hid (y = (0, false)) := Lib.hid (by rw [hd, if_neg (by simp [inB]; omega)])
      subst hc
      clear hd hsm
      go_enter Tryd.func23, Tryd.ntmps23
      go_wp2_with fail
      refine (HK.out _ (tab_below HT.out ((Below.refl _ w).alloc (Nat.le_refl _) _) (Nat.le_refl _))).mono ?_
      rintro e w1 ⟨rfl, hb1⟩
      obtain ⟨hb, hz⟩ := kin_block hb1
      clear hb1
      go_wp2_with fail
      go_ret2
      exact ⟨ret_ib (by rw [HY.out]; try rfl) (by rw [HY.out]), hb.alloc (Nat.le_of_lt hz) _⟩

set_option maxHeartbeats 1000000 in
theorem sNumberBehind (t p : Int) (s : ByteArray) (k : Int) (w : World) :
    Calls Tryd.prog 22 #[.agg #[.int .i64 t, .int .i64 p], .string s, .int .i64 k] w fun e w' => e = .returned (.tuple #[.int .i64 (nbW t p s k).1, .bool (nbW t p s k).2]) ∧ Below w.heap.size w w' := by
  have HA := Lib.hid (fun w => woAsked_any t p s w)
  by_cases h : askW t p s = true
  · rw [h] at HA
    obtain ⟨hg, hw⟩ := askW_iff.1 h
    have HL := Lib.hid (fun w => woLine_any t p s w hg hw)
    have HY := Lib.hid (knW_yes h)
    have hsm := knW_small h
    have hd : nbW t p s k = if askW t p s = true ∧ inB k (-1000) 1000 = true ∧ numB ((knW t p s).2.1 * k + (knW t p s).2.2) = true then ((knW t p s).2.1 * k + (knW t p s).2.2, true) else (0, false) := rfl
    rw [HY.out] at hd hsm
    rw [h] at hd
    clear hg hw h HY
    generalize nbW t p s k = y at hd ⊢
    generalize lin t p s.data.toList s.size = x at HL hd hsm
    obtain ⟨a, b, r⟩ := x
    obtain ⟨a0, a1, b0, b1, r0, r1, _⟩ := hsm
    dsimp only at hd a0 a1 b0 b1 r0 r1
    have HD := Lib.hid hd
    clear hd
    cases hin : inB k (-1000) 1000
    · have HY : Hid (y = (0, false)) := Lib.hid (by rw [HD.out, if_neg (by simp [hin])])
      clear HD
      go_enter Tryd.func22, Tryd.ntmps22
      go_wp2_with fail
      refine (HA.out _).mono ?_
      rintro e w1 ⟨rfl, hb1⟩
      obtain ⟨c0, c1, hz, hb⟩ := map_block hb1
      clear hb1
      go_wp2_with (go_at_call 33; refine (l1In_any _ _ _ _).mono ?_; rintro e w' ⟨rfl, rfl⟩)
      go_ret2
      exact ⟨ret_ib (by rw [HY.out]) (by rw [HY.out]), hb⟩
    · have hk : -1000 ≤ k ∧ k ≤ 1000 := by simpa [inB] using hin
      have hmk := mul_k a0 a1 hk.1 hk.2
      have HY : Hid (y = (if numB (a * k + b) = true then a * k + b else 0, numB (a * k + b))) := Lib.hid (by
        rw [HD.out]; by_cases hn : numB (a * k + b) = true
        · simp [hin, hn]
        · simp [hn])
      have HO := Lib.hid (fun w => mpOne_w (a * k + b) w)
      clear HD
      cases hnn : numB (a * k + b)
      all_goals
        rw [hnn] at HY HO
        go_enter Tryd.func22, Tryd.ntmps22
        go_wp2_with fail
        refine (HA.out _).mono ?_
        rintro e w1 ⟨rfl, hb1⟩
        obtain ⟨c0, c1, hz, hb⟩ := map_block hb1
        clear hb1
        go_wp2_with (go_at_call 33; refine (l1In_any _ _ _ _).mono ?_; rintro e w' ⟨rfl, rfl⟩)
        refine (HL.out _).mono ?_
        rintro e w2 ⟨rfl, hb2⟩
        have HB := Lib.hid (hb.trans (hb2.mono (Nat.le_of_lt hz)))
        clear hb2 hb c0 c1
        go_wp2_with fail
        refine (HO.out _).mono ?_
        rintro e w' ⟨rfl, rfl⟩
        go_wp2_with fail
        go_ret2
        exact ⟨ret_ib (by rw [HY.out]; try rfl) (by rw [HY.out]), HB.out⟩
  · have h' : askW t p s = false := by simpa using h
    rw [h'] at HA
    have HY : Hid (nbW t p s k = (0, false)) := Lib.hid (by rw [nbW, if_neg (by simp [h'])])
    clear h h'
    go_enter Tryd.func22, Tryd.ntmps22
    go_wp2_with fail
    refine (HA.out _).mono ?_
    rintro e w1 ⟨rfl, hb1⟩
    obtain ⟨c0, c1, hz, hb⟩ := map_block hb1
    clear hb1
    go_wp2_with fail
    go_ret2
    exact ⟨ret_ib (by rw [HY.out]) (by rw [HY.out]), hb⟩
end Go.Proofs.YteekglabcimfpaaDoor
