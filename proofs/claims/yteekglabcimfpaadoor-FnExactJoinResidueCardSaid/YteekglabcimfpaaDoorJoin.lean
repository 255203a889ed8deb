/-
  'JoinResidue' of both.
-/
import Derived.Test.YteekglabcimfpaaDoorWordsK
import Derived.Laws.IdiomStrings
import Derived.OwnWalk
namespace Go.Proofs.YteekglabcimfpaaDoor
open Go.RowKit
set_option linter.unusedVariables false

theorem append_size (s v : ByteArray) : (s ++ v).size = s.size + v.size := by simp
theorem append_list (s v : ByteArray) : (s ++ v).data.toList = s.data.toList ++ v.data.toList := by simp
theorem wordB_append {s v : ByteArray} (h1 : wordB s = true) (h2 : wordB v = true) : wordB (s ++ v) = decide (s.size + v.size ≤ 15) := by
  obtain ⟨a1, a2⟩ := wordB_iff.1 h1
  obtain ⟨b1, b2⟩ := wordB_iff.1 h2
  by_cases hl : s.size + v.size ≤ 15
  · rw [decide_eq_true hl, wordB_iff]
    refine ⟨by rw [append_size]; exact hl, ?_⟩
    rw [append_list]
    intro c hc
    rcases List.mem_append.1 hc with h | h
    · exact a2 c h
    · exact b2 c h
  · rw [decide_eq_false hl]
    exact wordB_long (by rw [append_size]; exact hl)
/-- The residue of a word and another one behind it. -/
def jnW (t p : Int) (s v : ByteArray) : Int × Bool := if wordB s = true ∧ wordB v = true then ((knW t p (s ++ v)).1, askW t p (s ++ v)) else (0, false)
theorem add_str (s v : ByteArray) (h1 : s.size ≤ 15) (h2 : v.size ≤ 15) (w : World) : (Op.stringOp .add s v).run Tryd.prog w = .ok (.string (s ++ v)) w := run_string_add_sum w _ _ (by omega)

set_option maxHeartbeats 1000000 in
theorem iJoinResidue (t p : Int) (s v : ByteArray) (w : World) (htab : Tab w) :
    Calls Tryd.prog 28 #[.agg #[.int .i64 t, .int .i64 p], .string s, .string v] w fun e w' => e = .returned (.tuple #[.int .i64 (jnW t p s v).1, .bool (jnW t p s v).2]) ∧ Below w.heap.size w w' := by
  have HT := Lib.hid htab
  have HI := Lib.hid (fun w => isWord_any s w)
  have HJ := Lib.hid (fun w => isWord_any v w)
  clear htab
  cases hs : wordB s
  · have HY : Hid (jnW t p s v = (0, false)) := Lib.hid (by rw [jnW, if_neg (by simp [hs])])
    rw [hs] at HI
    clear hs
    go_enter Tryd.func28, Tryd.ntmps28
    go_wp2_with fail
    refine (HI.out _).mono ?_
    rintro e w1 ⟨rfl, hb1⟩
    obtain ⟨hb, hz⟩ := kin_block hb1
    clear hb1
    go_wp2_with fail
    go_ret2
    exact ⟨ret_ib (by rw [HY.out]) (by rw [HY.out]), hb⟩
  · cases hv : wordB v
    · have HY : Hid (jnW t p s v = (0, false)) := Lib.hid (by rw [jnW, if_neg (by simp [hv])])
      rw [hs] at HI
      rw [hv] at HJ
      clear hs hv
      go_enter Tryd.func28, Tryd.ntmps28
      go_wp2_with fail
      refine (HI.out _).mono ?_
      rintro e w1 ⟨rfl, hb1⟩
      obtain ⟨hb, hz⟩ := kin_block hb1
      clear hb1
      go_wp2_with fail
      refine (HJ.out _).mono ?_
      rintro e w2 ⟨rfl, hb2⟩
      have HB := Lib.hid (hb.trans (hb2.mono (Nat.le_of_lt hz)))
      clear hb2 hb
      go_wp2_with fail
      go_ret2
      exact ⟨ret_ib (by rw [HY.out]) (by rw [HY.out]), HB.out⟩
    · have HY : Hid (jnW t p s v = ((knW t p (s ++ v)).1, askW t p (s ++ v))) := Lib.hid (by rw [jnW, if_pos ⟨hs, hv⟩])
      have hadd := add_str s v (wordB_iff.1 hs).1 (wordB_iff.1 hv).1
      have HR := Lib.hid (fun w h => iResidueOfWord t p (s ++ v) w h)
      rw [hs] at HI
      rw [hv] at HJ
      clear hs hv
      go_enter Tryd.func28, Tryd.ntmps28
      go_wp2_with fail
      refine (HI.out _).mono ?_
      rintro e w1 ⟨rfl, hb1⟩
      have hb0 := map_block hb1
      obtain ⟨c0, c1, hz, hb⟩ := hb0
      clear hb1
      go_wp2_with fail
      refine (HJ.out _).mono ?_
      rintro e w2 ⟨rfl, hb2⟩
      have d0 := kept_cell hb2 hz c0
      have d1 := kept_cell hb2 hz c1
      have HB := Lib.hid (hb.trans (hb2.mono (Nat.le_of_lt hz)))
      clear hb2 hb c0 c1
      go_wp2_with fail
      refine (HR.out _ (tab_below HT.out HB.out (Nat.le_refl _))).mono ?_
      rintro e w3 ⟨rfl, hb3⟩
      have HB3 := Lib.hid (HB.out.trans (hb3.mono HB.out.size))
      clear hb3
      go_wp2_with fail
      go_ret2
      exact ⟨ret_ib (by rw [HY.out]) (by rw [HY.out]), HB3.out⟩

set_option maxHeartbeats 1000000 in
theorem sJoinResidue (t p : Int) (s v : ByteArray) (w : World) :
    Calls Tryd.prog 27 #[.agg #[.int .i64 t, .int .i64 p], .string s, .string v] w fun e w' => e = .returned (.tuple #[.int .i64 (jnW t p s v).1, .bool (jnW t p s v).2]) ∧ Below w.heap.size w w' := by
  have HA := Lib.hid (fun w => woAsked_any t p s w)
  have HJ := Lib.hid (fun w => woWord_any v w)
  cases hs : askW t p s
  · have HY : Hid (jnW t p s v = (0, false)) := Lib.hid (by
      rw [jnW]
      split
      · rename_i h
        have hg : goodB t p = false := by rw [askW, h.1] at hs; simpa using hs
        have ha : askW t p (s ++ v) = false := by rw [askW, hg]; rfl
        rw [knW_no ha, ha]
      · rfl)
    rw [hs] at HA
    clear hs
    go_enter Tryd.func27, Tryd.ntmps27
    go_wp2_with fail
    refine (HA.out _).mono ?_
    rintro e w1 ⟨rfl, hb1⟩
    obtain ⟨hb, hz⟩ := kin_block hb1
    clear hb1
    go_wp2_with fail
    go_ret2
    exact ⟨ret_ib (by rw [HY.out]) (by rw [HY.out]), hb⟩
  · obtain ⟨hg, hw⟩ := askW_iff.1 hs
    rw [hs] at HA
    clear hs
    cases hv : wordB v
    · have HY : Hid (jnW t p s v = (0, false)) := Lib.hid (by rw [jnW, if_neg (by simp [hv])])
      rw [hv] at HJ
      clear hv hg hw
      go_enter Tryd.func27, Tryd.ntmps27
      go_wp2_with fail
      refine (HA.out _).mono ?_
      rintro e w1 ⟨rfl, hb1⟩
      obtain ⟨hb, hz⟩ := kin_block hb1
      clear hb1
      go_wp2_with fail
      refine (HJ.out _).mono ?_
      rintro e w2 ⟨rfl, hb2⟩
      have HB := Lib.hid (hb.trans (hb2.mono (Nat.le_of_lt hz)))
      clear hb2 hb
      go_wp2_with fail
      go_ret2
      exact ⟨ret_ib (by rw [HY.out]) (by rw [HY.out]), HB.out⟩
    · have hs1 : (s.size : Int) ≤ 15 := by have := (wordB_iff.1 hw).1; omega
      have hv1 : (v.size : Int) ≤ 15 := by have := (wordB_iff.1 hv).1; omega
      have hap := wordB_append hw hv
      by_cases hl : s.size + v.size ≤ 15
      · rw [decide_eq_true hl] at hap
        have HY : Hid (jnW t p s v = ((lin t p (s ++ v).data.toList (s ++ v).size).2.2, true)) := Lib.hid (by
          have ha : askW t p (s ++ v) = true := askW_iff.2 ⟨hg, hap⟩
          rw [jnW, if_pos ⟨hw, hv⟩, ha, knW_yes ha])
        have hadd := add_str s v (by omega) (by omega)
        have HL := Lib.hid (fun w => woLine_any t p (s ++ v) w hg hap)
        rw [hv] at HJ
        have hl1 : ¬ (15 < (s.size : Int) + (v.size : Int)) := by omega
        clear hv hg hw hap hl
        generalize lin t p (s ++ v).data.toList (s ++ v).size = x at HL HY
        obtain ⟨a, b, r⟩ := x
        go_enter Tryd.func27, Tryd.ntmps27
        go_wp2_with fail
        refine (HA.out _).mono ?_
        rintro e w1 ⟨rfl, hb1⟩
        obtain ⟨c0, c1, hz, hb⟩ := map_block hb1
        clear hb1
        go_wp2_with fail
        refine (HJ.out _).mono ?_
        rintro e w2 ⟨rfl, hb2⟩
        have d0 := kept_cell hb2 hz c0
        have d1 := kept_cell hb2 hz c1
        have HB := Lib.hid (hb.trans (hb2.mono (Nat.le_of_lt hz)))
        clear hb2 hb c0 c1
        go_wp2_with fail
        refine (HL.out _).mono ?_
        rintro e w3 ⟨rfl, hb3⟩
        have HB3 := Lib.hid (HB.out.trans (hb3.mono HB.out.size))
        clear hb3
        go_wp2_with fail
        go_ret2
        exact ⟨ret_ib (by rw [HY.out]) (by rw [HY.out]), HB3.out⟩
      · rw [decide_eq_false hl] at hap
        have HY : Hid (jnW t p s v = (0, false)) := Lib.hid (by
          have ha : askW t p (s ++ v) = false := by rw [askW, hap, Bool.and_false]
          rw [jnW, if_pos ⟨hw, hv⟩, ha, knW_no ha])
        rw [hv] at HJ
        have hl1 : 15 < (s.size : Int) + (v.size : Int) := by omega
        clear hv hg hw hap hl
        go_enter Tryd.func27, Tryd.ntmps27
        go_wp2_with fail
        refine (HA.out _).mono ?_
        rintro e w1 ⟨rfl, hb1⟩
        obtain ⟨c0, c1, hz, hb⟩ := map_block hb1
        clear hb1
        go_wp2_with fail
        refine (HJ.out _).mono ?_
        rintro e w2 ⟨rfl, hb2⟩
        have HB := Lib.hid (hb.trans (hb2.mono (Nat.le_of_lt hz)))
        clear hb2 hb c0 c1
        go_wp2_with fail
        go_ret2
        exact ⟨ret_ib (by rw [HY.out]) (by rw [HY.out]), HB.out⟩
end Go.Proofs.YteekglabcimfpaaDoor
