/-
  'WordAfter' of both.
-/
import Derived.Test.YteekglabcimfpaaAsked
import Derived.Test.YteekglabcimfpaaShelf
import Derived.WalkSpells
import Derived.Outline
namespace Go.Proofs.Yteekglabcimfpaa
open Go.RowKit
set_option linter.unusedVariables false

/-- What WordAfter comes to. -/
def waf (t p : Int) (s : ByteArray) (k : Int) : ByteArray × Bool := if askW t p s = true ∧ 0 ≤ k ∧ k ≤ s.size then (s.extract k.toNat s.size, true) else (⟨#[]⟩, false)
theorem ret_sb {x y : ByteArray} {a b : Bool} (h : x = y) (h' : a = b) : Ending.returned (.tuple #[.string x, .bool a]) = .returned (.tuple #[.string y, .bool b]) := by rw [h, h']
theorem clone_any (s : ByteArray) (w : World) (h : s.size ≤ 281474976710656) :
    Calls Try.prog 11 #[.string s] w fun e w' => e = .returned (.string s) ∧ Below w.heap.size w w' := by
  have HC := Lib.hid (fun w => Try.stringslite_Clone s w h)
  clear h
  go_enter Try.func11, Try.ntmps11
  go_wp2_with fail
  refine (HC.out _).mono ?_
  rintro e w1 ⟨rfl, hb⟩
  go_wp2_with fail
  go_ret
  exact ⟨rfl, hb⟩
theorem extract_size (s : ByteArray) (k : Nat) : (s.extract k s.size).size ≤ s.size := by simp

set_option maxHeartbeats 1000000 in
theorem sWordAfter (t p : Int) (s : ByteArray) (k : Int) (w : World) :
    Calls Try.prog 4 #[.agg #[.int .i64 t, .int .i64 p], .string s, .int .i64 k] w fun e w' => e = .returned (.tuple #[.string (waf t p s k).1, .bool (waf t p s k).2]) ∧ Below w.heap.size w w' := by
  have HA := Lib.hid (fun w => woAsked_any t p s w)
  have HI := Lib.hid (fun w => l1In_any k 0 s.size w)
  cases hc : askW t p s
  · have HY : Hid (waf t p s k = (⟨#[]⟩, false)) := Lib.hid (by rw [waf, if_neg (by simp [hc])])
    rw [hc] at HA
    clear hc
    go_enter Try.func4, Try.ntmps4
    go_wp2_with fail
    refine (HA.out _).mono ?_
    rintro e w1 ⟨rfl, hb1⟩
    obtain ⟨c0, c1, hz, hb⟩ := map_block hb1
    clear hb1
    go_wp2_with fail
    go_ret2
    exact ⟨ret_sb (by rw [HY.out]) (by rw [HY.out]), hb⟩
  · rw [hc] at HA
    by_cases hk : 0 ≤ k ∧ k ≤ s.size
    · have HY : Hid (waf t p s k = (s.extract k.toNat s.size, true)) := Lib.hid (by rw [waf, if_pos ⟨hc, hk.1, hk.2⟩])
      rw [show inB k 0 s.size = true by simp [inB, hk]] at HI
      obtain ⟨k0, k1⟩ := hk
      obtain ⟨K, rfl⟩ : ∃ K : Nat, k = K := ⟨k.toNat, by omega⟩
      have hK : K ≤ s.size := by omega
      have hz15 : (s.size : Int) ≤ 15 := by have := (wordB_iff.1 (askW_iff.1 hc).2).1; omega
      clear hc
      go_enter Try.func4, Try.ntmps4
      go_wp2_with fail
      refine (HA.out _).mono ?_
      rintro e w1 ⟨rfl, hb1⟩
      obtain ⟨c0, c1, hz, hb⟩ := map_block hb1
      clear hb1
      go_wp2_with (go_at_call 8; refine (HI.out _).mono ?_; rintro e w' ⟨rfl, rfl⟩)
      go_ret2
      exact ⟨ret_sb (by rw [HY.out]; rfl) (by rw [HY.out]), hb⟩
    · have HY : Hid (waf t p s k = (⟨#[]⟩, false)) := Lib.hid (by rw [waf, if_neg (fun h => hk h.2)])
      rw [show inB k 0 s.size = false by simp [inB]; omega] at HI
      clear hc hk
      go_enter Try.func4, Try.ntmps4
      go_wp2_with fail
      refine (HA.out _).mono ?_
      rintro e w1 ⟨rfl, hb1⟩
      obtain ⟨c0, c1, hz, hb⟩ := map_block hb1
      clear hb1
      go_wp2_with (go_at_call 8; refine (HI.out _).mono ?_; rintro e w' ⟨rfl, rfl⟩)
      go_ret2
      exact ⟨ret_sb (by rw [HY.out]) (by rw [HY.out]), hb⟩

set_option maxHeartbeats 1000000 in
theorem iWordAfter (t p : Int) (s : ByteArray) (k : Int) (w : World) :
    Calls Try.prog 6 #[.agg #[.int .i64 t, .int .i64 p], .string s, .int .i64 k] w fun e w' => e = .returned (.tuple #[.string (waf t p s k).1, .bool (waf t p s k).2]) ∧ Below w.heap.size w w' := by
  have HM := Lib.hid (fun w => isMap_any t p w)
  have HI := Lib.hid (fun w => isWord_any s w)
  cases hg : goodB t p
  · have HY : Hid (waf t p s k = (⟨#[]⟩, false)) := Lib.hid (by rw [waf, if_neg (by simp [askW, hg])])
    rw [hg] at HM
    clear hg
    go_enter Try.func6, Try.ntmps6
    go_wp2_with fail
    refine (HM.out _).mono ?_
    rintro e w1 ⟨rfl, hb1⟩
    obtain ⟨c0, c1, hz, hb⟩ := map_block hb1
    clear hb1
    go_wp2_with fail
    go_ret2
    exact ⟨ret_sb (by rw [HY.out]) (by rw [HY.out]), hb⟩
  · cases hw : wordB s
    · have HY : Hid (waf t p s k = (⟨#[]⟩, false)) := Lib.hid (by rw [waf, if_neg (by simp [askW, hw])])
      rw [hg] at HM
      rw [hw] at HI
      clear hg hw
      go_enter Try.func6, Try.ntmps6
      go_wp2_with fail
      refine (HM.out _).mono ?_
      rintro e w1 ⟨rfl, hb1⟩
      obtain ⟨c0, c1, hz, hb⟩ := map_block hb1
      clear hb1
      go_wp2_with fail
      refine (HI.out _).mono ?_
      rintro e w2 ⟨rfl, hb2⟩
      have HB := Lib.hid (hb.trans (hb2.mono (Nat.le_of_lt hz)))
      clear hb2 hb c0 c1
      go_wp2_with fail
      go_ret2
      exact ⟨ret_sb (by rw [HY.out]) (by rw [HY.out]), HB.out⟩
    · have hc : askW t p s = true := askW_iff.2 ⟨hg, hw⟩
      have hz15 : (s.size : Int) ≤ 15 := by have := (wordB_iff.1 hw).1; omega
      rw [hg] at HM
      rw [hw] at HI
      clear hg hw
      by_cases k0 : 0 ≤ k
      · obtain ⟨K, rfl⟩ : ∃ K : Nat, k = K := ⟨k.toNat, by omega⟩
        have hd0 : decide ((K : Int) < 0) = false := by simp
        by_cases k1 : K ≤ s.size
        · have HY : Hid (waf t p s K = (s.extract K s.size, true)) := Lib.hid (by rw [waf, if_pos ⟨hc, k0, by omega⟩]; rfl)
          have HC := Lib.hid (fun w => clone_any (s.extract K s.size) w (by have := extract_size s K; omega))
          have hd1 : decide (s.size < K) = false := by simpa using k1
          clear hc
          go_enter Try.func6, Try.ntmps6
          go_wp2_with fail
          refine (HM.out _).mono ?_
          rintro e w1 ⟨rfl, hb1⟩
          obtain ⟨c0, c1, hz, hb⟩ := map_block hb1
          clear hb1
          go_wp2_with fail
          refine (HI.out _).mono ?_
          rintro e w2 ⟨rfl, hb2⟩
          have HB := Lib.hid (hb.trans (hb2.mono (Nat.le_of_lt hz)))
          clear hb2 hb c0 c1
          go_wp2_with fail
          refine (HC.out _).mono ?_
          rintro e w3 ⟨rfl, hb3⟩
          have HB3 := Lib.hid (HB.out.trans (hb3.mono HB.out.size))
          clear hb3
          go_wp2_with fail
          go_ret2
          exact ⟨ret_sb (by rw [HY.out]) (by rw [HY.out]), HB3.out⟩
        · have HY : Hid (waf t p s K = (⟨#[]⟩, false)) := Lib.hid (by rw [waf, if_neg (fun h => by have := h.2.2; omega)])
          have hd1 : decide (s.size < K) = true := by simpa using k1
          clear hc
          go_enter Try.func6, Try.ntmps6
          go_wp2_with fail
          refine (HM.out _).mono ?_
          rintro e w1 ⟨rfl, hb1⟩
          obtain ⟨c0, c1, hz, hb⟩ := map_block hb1
          clear hb1
          go_wp2_with fail
          refine (HI.out _).mono ?_
          rintro e w2 ⟨rfl, hb2⟩
          have HB := Lib.hid (hb.trans (hb2.mono (Nat.le_of_lt hz)))
          clear hb2 hb c0 c1
          go_wp2_with fail
          go_ret2
          exact ⟨ret_sb (by rw [HY.out]) (by rw [HY.out]), HB.out⟩
      · have HY : Hid (waf t p s k = (⟨#[]⟩, false)) := Lib.hid (by rw [waf, if_neg (fun h => k0 h.2.1)])
        have hd0 : decide (k < 0) = true := by simpa using k0
        clear hc
        go_enter Try.func6, Try.ntmps6
        go_wp2_with fail
        refine (HM.out _).mono ?_
        rintro e w1 ⟨rfl, hb1⟩
        obtain ⟨c0, c1, hz, hb⟩ := map_block hb1
        clear hb1
        go_wp2_with fail
        refine (HI.out _).mono ?_
        rintro e w2 ⟨rfl, hb2⟩
        have HB := Lib.hid (hb.trans (hb2.mono (Nat.le_of_lt hz)))
        clear hb2 hb c0 c1
        go_wp2_with fail
        go_ret2
        exact ⟨ret_sb (by rw [HY.out]) (by rw [HY.out]), HB.out⟩
end Go.Proofs.Yteekglabcimfpaa
