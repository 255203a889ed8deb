/-
  'HasWord' of both.
-/
import Derived.Test.YteekglabcimfpaaDoorWordsK
import Derived.Test.YteekglabcimfpaaDoorWoOf
import Derived.Deep.RegionWith
namespace Go.Proofs.YteekglabcimfpaaDoor
open Go.RowKit
set_option linter.unusedVariables false

/-- Has the number the word, and are there a map, a word and a number? -/
def hsW (t p : Int) (s : ByteArray) (n : Int) : Bool × Bool := if askW t p s = true ∧ numB n = true then (decide (n % 2 ^ s.size = (knW t p s).1), true) else (false, false)
theorem ret_bb {x y a b : Bool} (h : x = y) (h' : a = b) : Ending.returned (.tuple #[.bool x, .bool a]) = .returned (.tuple #[.bool y, .bool b]) := by rw [h, h']
/-- The texts are alike just if the residue is the word's. -/
theorem word_beq {t p n : Int} {s : ByteArray} (h : askW t p s = true) : ((wby (wrd t p n s.size)).toList == s.toList) = decide (n % 2 ^ s.size = (knW t p s).1) := by
  obtain ⟨hg, hw⟩ := askW_iff.1 h
  have hl := (wordB_iff.1 hw).2
  have hj := (linOk hg hl (k := s.size) (by simp)).just n
  rw [show s.data.toList.take s.size = s.data.toList from List.take_of_length_le (by simp)] at hj
  rw [knW_yes h]
  dsimp only
  rw [Bool.eq_iff_iff, beq_iff_eq, decide_eq_true_eq, ← hj, ByteArray.toList_eq, ByteArray.toList_eq]
  rfl

theorem beq_dec (a b : Int) : (a == b) = decide (a = b) := by rw [Bool.eq_iff_iff, beq_iff_eq, decide_eq_true_eq]
theorem iHasWord (t p : Int) (n : Int) (s : ByteArray) (w : World) (htab : Tab w) :
    Calls Tryd.prog 19 #[.agg #[.int .i64 t, .int .i64 p], .int .i64 n, .string s] w fun e w' => e = .returned (.tuple #[.bool (hsW t p s n).1, .bool (hsW t p s n).2]) ∧ Below w.heap.size w w' := by
  have HK := Lib.hid (fun w (h : Tab w) => kinOf_any t p s w h)
  have HT := Lib.hid htab
  have HI := Lib.hid (fun w => isNumber_any n w)
  clear htab
  cases hc : askW t p s
  · have HY : Hid (hsW t p s n = (false, false)) := Lib.hid (by rw [hsW, if_neg (by simp [hc])])
    rw [hc] at HK
    clear hc
    generalize knW t p s = x at HK
    obtain ⟨r, a, b⟩ := x
    go_enter Tryd.func19, Tryd.ntmps19
    go_wp2_with fail
    refine (HK.out _ (tab_below HT.out ((Below.refl _ w).alloc (Nat.le_refl _) _) (Nat.le_refl _))).mono ?_
    rintro e w1 ⟨rfl, hb1⟩
    obtain ⟨hb, hz⟩ := kin_block hb1
    clear hb1
    go_wp2_with fail
    go_ret2
    exact ⟨ret_bb (by rw [HY.out]) (by rw [HY.out]), hb.alloc (Nat.le_of_lt hz) _⟩
  · cases hn : numB n
    · have HY : Hid (hsW t p s n = (false, false)) := Lib.hid (by rw [hsW, if_neg (by simp [hn])])
      rw [hc] at HK
      rw [hn] at HI
      clear hc hn
      generalize knW t p s = x at HK
      obtain ⟨r, a, b⟩ := x
      go_enter Tryd.func19, Tryd.ntmps19
      go_wp2_with fail
      refine (HK.out _ (tab_below HT.out ((Below.refl _ w).alloc (Nat.le_refl _) _) (Nat.le_refl _))).mono ?_
      rintro e w1 ⟨rfl, hb1⟩
      obtain ⟨hb, hz⟩ := kin_block hb1
      clear hb1
      go_wp2_with (go_at_call 35; refine (HI.out _).mono ?_; rintro e w' ⟨rfl, rfl⟩)
      go_ret2
      exact ⟨ret_bb (by rw [HY.out]) (by rw [HY.out]), hb.alloc (Nat.le_of_lt hz) _⟩
    · have HY : Hid (hsW t p s n = (decide (n % 2 ^ s.size = (knW t p s).1), true)) := Lib.hid (by rw [hsW, if_pos ⟨hc, hn⟩])
      have hz15 : s.size ≤ 15 := (wordB_iff.1 (askW_iff.1 hc).2).1
      have HR := Lib.hid (fun w h => residueOf_any n s.size hz15 w h)
      rw [hc] at HK
      rw [hn] at HI
      clear hc hn
      generalize knW t p s = x at HK HY
      obtain ⟨r, a, b⟩ := x
      go_enter Tryd.func19, Tryd.ntmps19
      go_wp2_with fail
      refine (HK.out _ (tab_below HT.out ((Below.refl _ w).alloc (Nat.le_refl _) _) (Nat.le_refl _))).mono ?_
      rintro e w1 ⟨rfl, hb1⟩
      obtain ⟨hb, hz⟩ := kin_block hb1
      clear hb1
      have HTB := Lib.hid (tab_below HT.out (hb.alloc (Nat.le_of_lt hz) (.cells #[.int .i64 r, .int .i64 a, .int .i64 b] 51)) (Nat.le_refl _))
      go_wp2_with (go_at_call 35; refine (HI.out _).mono ?_; rintro e w' ⟨rfl, rfl⟩)
      go_region_with (go_at_call 36; refine (HR.out _ (by first | exact HTB.out | exact (show Tab _ from HTB.out))).mono ?_; rintro e w' ⟨rfl, rfl⟩)
      all_goals
        go_wp2_with fail
        go_ret2
        exact ⟨ret_bb (by rw [HY.out]; exact beq_dec _ _) (by rw [HY.out]), by first | exact hb.alloc (Nat.le_of_lt hz) _ | exact (hb.alloc (Nat.le_of_lt hz) _).drew⟩

theorem sHasWord (t p : Int) (n : Int) (s : ByteArray) (w : World) :
    Calls Tryd.prog 18 #[.agg #[.int .i64 t, .int .i64 p], .int .i64 n, .string s] w fun e w' => e = .returned (.tuple #[.bool (hsW t p s n).1, .bool (hsW t p s n).2]) ∧ Below w.heap.size w w' := by
  have HA := Lib.hid (fun w => woAsked_any t p s w)
  have HI := Lib.hid (fun w => mpIs_any n w)
  cases hc : askW t p s
  · have HY : Hid (hsW t p s n = (false, false)) := Lib.hid (by rw [hsW, if_neg (by simp [hc])])
    rw [hc] at HA
    clear hc
    go_enter Tryd.func18, Tryd.ntmps18
    go_wp2_with fail
    refine (HA.out _).mono ?_
    rintro e w1 ⟨rfl, hb1⟩
    obtain ⟨c0, c1, hz, hb⟩ := map_block hb1
    clear hb1
    go_wp2_with fail
    go_ret2
    exact ⟨ret_bb (by rw [HY.out]) (by rw [HY.out]), hb⟩
  · cases hn : numB n
    · have HY : Hid (hsW t p s n = (false, false)) := Lib.hid (by rw [hsW, if_neg (by simp [hn])])
      rw [hc] at HA
      rw [hn] at HI
      clear hc hn
      go_enter Tryd.func18, Tryd.ntmps18
      go_wp2_with fail
      refine (HA.out _).mono ?_
      rintro e w1 ⟨rfl, hb1⟩
      obtain ⟨c0, c1, hz, hb⟩ := map_block hb1
      clear hb1
      go_wp2_with (go_at_call 32; refine (HI.out _).mono ?_; rintro e w' ⟨rfl, rfl⟩)
      go_ret2
      exact ⟨ret_bb (by rw [HY.out]) (by rw [HY.out]), hb⟩
    · have HY : Hid (hsW t p s n = (decide (n % 2 ^ s.size = (knW t p s).1), true)) := Lib.hid (by rw [hsW, if_pos ⟨hc, hn⟩])
      have hz15 : s.size ≤ 15 := (wordB_iff.1 (askW_iff.1 hc).2).1
      obtain ⟨n1, n2⟩ := numB_iff.1 hn
      have HO := Lib.hid (fun w => woOf_any t p n s.size w (askW_iff.1 hc).1 hz15 (by omega) (by omega))
      have hwb := word_beq (n := n) hc
      rw [hc] at HA
      rw [hn] at HI
      clear hc hn
      generalize hd : decide (n % 2 ^ s.size = (knW t p s).1) = d at HY hwb
      generalize hl : wby (wrd t p n s.size) = x at HO hwb
      clear hd hl
      go_enter Tryd.func18, Tryd.ntmps18
      go_wp2_with fail
      refine (HA.out _).mono ?_
      rintro e w1 ⟨rfl, hb1⟩
      obtain ⟨c0, c1, hz, hb⟩ := map_block hb1
      clear hb1
      go_wp2_with (go_at_call 32; refine (HI.out _).mono ?_; rintro e w' ⟨rfl, rfl⟩)
      refine (HO.out _).mono ?_
      rintro e w2 ⟨rfl, hb2⟩
      have HB := Lib.hid (hb.trans (hb2.mono (Nat.le_of_lt hz)))
      clear hb2 hb c0 c1
      go_wp2_with fail
      go_ret2
      exact ⟨ret_bb (by rw [HY.out]) (by rw [HY.out]), HB.out⟩
end Go.Proofs.YteekglabcimfpaaDoor
