/-
  'IsInLevel' of the program; 'LevelSizes' of both.
  'FirstLevelOf', 'PathToRoot' of both.
  'InTreeUpTo' of both.
-/
import Derived.Test.YtjcpdlamgjpmmaaLevK
import Derived.Test.YtjcpdlamgjpmmaaCpF
import Derived.OwnWalk
import Derived.Test.YtjcpdlamgjpmmaaPathOf
import Derived.ScopeJumps
import Derived.WalkMore
import Derived.Outline
namespace Go.Proofs.Ytjcpdlamgjpmmaa
open Go.RowKit Go.Maps
set_option linter.unusedVariables false

set_option maxRecDepth 100000 in
set_option maxHeartbeats 4000000 in
theorem iIsInLevel (t p r k n : Int) (w : World) :
    Calls Try.prog 18 #[.agg #[.int .i64 t, .int .i64 p], .int .i64 r, .int .i64 k, .int .i64 n] w fun e w' => e = .returned (.tuple #[.bool (inX t p r k n), .bool (inY t p r k n)]) ∧ Below w.heap.size w w' := by
  have HL := Lib.hid (fun w => levelsOf_any false rfl t p r k w)
  rw [show bfF false = 52 from rfl] at HL
  have HX : Hid (inX t p r k n = (lvB false t p r k && numB n && decide (n ∈ lvX false t p r k))) := Lib.hid rfl
  have HY : Hid (inY t p r k n = (lvB false t p r k && numB n)) := Lib.hid rfl
  have HI := Lib.hid (fun w => isNumber_any n w)
  generalize inX t p r k n = a at HX ⊢
  generalize inY t p r k n = b at HY ⊢
  go_enter Try.func18, Try.ntmps18
  go_wp2_with fail
  refine (HL.out _).mono ?_
  rintro e w1 ⟨hb1, (⟨K, xs, v, rfl, ho, hxs, rfl, hlev⟩ | ⟨ho, rfl⟩)⟩
  · obtain ⟨c0, c1, hz, hb⟩ := map_block hb1
    obtain ⟨g, cap, bk, rfl, hgB, hgl, hcap, hcm, q, hset⟩ := hlev.at (k := K) (by rw [lvA_length]; omega)
    rw [lvA_at _ _ _ _ (Nat.le_refl _), hxs, Option.getD_some] at hset
    have HB := Lib.hid hb
    have hX : lvX false t p r K = xs := by rw [lvX, ho]; rfl
    have hBB : lvB false t p r K = true := by rw [lvB, ho]; rfl
    rw [hX, hBB] at HX
    rw [hBB] at HY
    rw [lvA_length] at hcap ⊢
    have hcap2 : (K : Int) + 1 ≤ (cap : Int) := by omega
    have hcm2 : (cap : Int) ≤ 9223372036854775807 := by unfold maxLen at hcm; omega
    cases hn : numB n
    · obtain rfl : a = false := by rw [HX.out, hn]; rfl
      obtain rfl : b = false := by rw [HY.out, hn]; rfl
      rw [hn] at HI
      clear hn hb1 hb hset hxs ho hlev hcm c0 c1 HL hX hBB
      go_wp2_with (go_at_call 33; refine (HI.out _).mono ?_; rintro e w' ⟨rfl, rfl⟩)
      go_ret2
      exact ⟨rfl, HB.out⟩
    · have hlk := hset.look (numB_wf hn)
      generalize decide (n ∈ xs) = d at HX hlk
      obtain rfl : a = d := by rw [HX.out, hn]; rfl
      obtain rfl : b = true := by rw [HY.out, hn]; rfl
      rw [hn] at HI
      clear hn hb1 hb hset hxs ho hlev hcm c0 c1 HL hX hBB HX HY
      go_wp2_with (go_at_call 33; refine (HI.out _).mono ?_; rintro e w' ⟨rfl, rfl⟩)
      go_ret2
      exact ⟨rfl, HB.out⟩
  · obtain ⟨c0, c1, hz, hb⟩ := map_block hb1
    have hBB : lvB false t p r k = false := by rw [lvB, ho]; rfl
    rw [hBB] at HX HY
    obtain rfl : a = false := HX.out
    obtain rfl : b = false := HY.out
    clear hb1 ho HL hBB
    go_wp2_with fail
    go_ret2
    exact ⟨rfl, hb⟩

/-- How many numbers the levels have. -/
def szL (t p r : Int) (K : Nat) : List Int := (lvA false t p r K).map fun l => (l.length : Int)
def szX (t p r k : Int) : List Int := if lvB false t p r k = true then szL t p r k.toNat else []
theorem szL_length (t p r : Int) (K : Nat) : (szL t p r K).length = K + 1 := by rw [szL, List.length_map, lvA_length]
theorem szX_len (t p r k : Int) : (szX t p r k).length ≤ 1000000000000 := by
  unfold szX
  split
  · rename_i h
    cases ho : lvO false t p r k with
    | none => rw [lvB, ho] at h; cases h
    | some xs =>
      obtain ⟨_, _, _, K, rfl, hK, _⟩ := lvO_some ho
      rw [szL_length]; omega
  · simp
theorem szL_at {t p r : Int} {j K : Nat} {ys : List Int} (hj : j ≤ K) (h : levL false t p r j = some ys) : (szL t p r K).getD j 0 = (ys.length : Int) := by
  rw [szL, List.getD_eq_getElem?_getD, List.getElem?_map, lvA, List.getElem?_map, List.getElem?_range (by omega)]
  simp only [Option.map_some, Option.getD_some]
  rw [h]
  rfl

end Go.Proofs.Ytjcpdlamgjpmmaa

namespace Go.Proofs.Ytjcpdlamgjpmmaa
open Go.RowKit Go.Maps
set_option linter.unusedVariables false

/-- The first level in which a number is. -/
def flO (t p r k n : Int) : Option Nat := if lvB false t p r k = true then (List.range (k.toNat + 1)).find? (fun j => decide (n ∈ (levL false t p r j).getD [])) else none
theorem flO_some {t p r n : Int} {K j : Nat} (hB : lvB false t p r K = true) (hj : j < K + 1) (hm : n ∈ (levL false t p r j).getD []) (hno : ∀ m, m < j → n ∉ (levL false t p r m).getD []) : flO t p r K n = some j := by
  rw [flO, if_pos hB, Int.toNat_natCast, List.find?_range_eq_some]
  exact ⟨decide_eq_true hm, List.mem_range.2 hj, fun m hmj => by simpa using hno m hmj⟩
theorem flO_none {t p r n : Int} {K : Nat} (hno : ∀ m, m < K + 1 → n ∉ (levL false t p r m).getD []) : flO t p r K n = none := by
  unfold flO
  split
  · rw [Int.toNat_natCast, List.find?_range_eq_none]
    intro m hm
    simpa using hno m hm
  · rfl
theorem flO_bad {t p r k n : Int} (hB : lvB false t p r k = false) : flO t p r k n = none := by rw [flO, if_neg (by simp [hB])]
theorem lev_num {t p r n : Int} {K m : Nat} (hg : goodB t p = true) (hr : numB r = true) (h : n ∈ (levL false t p r m).getD []) : numB n = true := by
  cases hl : levL false t p r m with
  | none => rw [hl] at h; simp at h
  | some xs => rw [hl] at h; exact levL_num hg hr hl h
theorem flO_notnum {t p r k n : Int} (h : numB n = false) : flO t p r k n = none := by
  cases hB : lvB false t p r k
  · exact flO_bad hB
  · cases ho : lvO false t p r k with
    | none => rw [lvB, ho] at hB; cases hB
    | some xs =>
      obtain ⟨_, hg, hr, K, rfl, _, _⟩ := lvO_some ho
      exact flO_none fun m _ hm => by have := lev_num (K := K) hg hr hm; rw [h] at this; cases this
theorem ret_ib' {a a' : Int} {b b' : Bool} (h : a = a') (h' : b = b') : Ending.returned (.tuple #[.int .i64 a, .bool b]) = .returned (.tuple #[.int .i64 a', .bool b']) := by rw [h, h']

set_option maxRecDepth 100000 in
set_option maxHeartbeats 4000000 in
theorem trFirst_any (t p r k n : Int) (w : World) :
    Calls Try.prog 54 #[.agg #[.int .i64 t, .int .i64 p], .int .i64 r, .int .i64 k, .int .i64 n] w fun e w' => e = .returned (.tuple #[.int .i64 (((flO t p r k n).getD 0 : Nat) : Int), .bool (flO t p r k n).isSome]) ∧ Below w.heap.size w w' := by
  have HA := Lib.hid (fun w => trAsked_any t p r k w)
  have HI := Lib.hid (fun w => mpIs_any n w)
  cases ha : askT t p r k
  · have HX : Hid (flO t p r k n = none) := Lib.hid (flO_bad (by rw [lvB, lvO_no ha]; rfl))
    rw [ha] at HA
    clear ha
    go_enter Try.func54, Try.ntmps54
    go_wp2_with fail
    refine (HA.out _).mono ?_
    rintro e w1 ⟨rfl, hb1⟩
    obtain ⟨c0, c1, hz, hb⟩ := map_block hb1
    clear hb1
    go_wp2_with fail
    go_ret2
    exact ⟨by rw [HX.out]; rfl, hb⟩
  · rw [ha] at HA
    cases hn : numB n
    · have HX : Hid (flO t p r k n = none) := Lib.hid (flO_notnum hn)
      rw [hn] at HI
      clear hn ha
      go_enter Try.func54, Try.ntmps54
      go_wp2_with fail
      refine (HA.out _).mono ?_
      rintro e w1 ⟨rfl, hb1⟩
      obtain ⟨c0, c1, hz, hb⟩ := map_block hb1
      clear hb1
      go_wp2_with (go_at_call 36; refine (HI.out _).mono ?_; rintro e w' ⟨rfl, rfl⟩)
      go_ret2
      exact ⟨by rw [HX.out]; rfl, hb⟩
    · obtain ⟨hg, hr, _, K, rfl, hK⟩ := askT_parts ha
      have HL := Lib.hid (fun w => trLevels_any false t p r K w hg hr hK)
      have HO := Lib.hid (lvO_yes (short := false) ha)
      have hK2 : (K : Int) ≤ 20 := by omega
      rw [hn] at HI
      clear ha hg hr hn
      go_enter Try.func54, Try.ntmps54
      go_wp2_with fail
      refine (HA.out _).mono ?_
      rintro e w1 ⟨rfl, hb1⟩
      obtain ⟨c0, c1, hz, hb⟩ := map_block hb1
      have HB1 := Lib.hid hb
      clear hb1 hb
      go_wp2_with (go_at_call 36; refine (HI.out _).mono ?_; rintro e w' ⟨rfl, rfl⟩)
      refine (HL.out _).mono ?_
      rintro e w2 ⟨hb2, (⟨xs, v, hxs, rfl, hlev⟩ | ⟨hxs, rfl⟩)⟩
      · have HBB : Hid (lvB false t p r K = true) := Lib.hid (by rw [lvB, HO.out, hxs]; rfl)
        have HFS := Lib.hid (fun j hj hm hno => flO_some (n := n) (j := j) HBB.out hj hm hno)
        have HFN := Lib.hid (fun hno => flO_none (t := t) (p := p) (r := r) (n := n) (K := K) hno)
        have HXS := Lib.hid hxs
        have HLEV := Lib.hid hlev
        have HB2 := Lib.hid (HB1.out.trans (hb2.mono (Nat.le_of_lt hz)))
        obtain ⟨vs, hrow, hbl, hbs⟩ := hlev
        rw [lvA_length] at hrow
        obtain ⟨g, cap, rfl, hgB, hgl, hcap, hcm, _⟩ := row_cells hrow (by omega)
        have hcap2 : (K : Int) + 1 ≤ (cap : Int) := by omega
        have hcm2 : (cap : Int) ≤ 9223372036854775807 := by unfold maxLen at hcm; omega
        clear hb2 hxs hrow hbl hbs hcm c0 c1 HL
        go_wp2_with fail
        go_loop [35] (fun i => ∃ j : Nat, j ≤ K + 1 ∧ i = .int .i64 j ∧ ∀ m, m < j → n ∉ (levL false t p r m).getD []) (fun i => K + 1 - (RowKit.intOf i).toNat)
        case atStart => exact ⟨0, by omega, rfl, by simp⟩
        case round =>
          obtain ⟨j, hj, rfl, hno⟩ := hrel
          have HNO := Lib.hid hno
          clear hno
          by_cases hlt : j < K + 1
          · have hjK : (j : Int) < (K : Int) + 1 := by omega
            obtain ⟨ys, hys⟩ := levL_lower (j := j) (by omega) HXS.out
            obtain ⟨g2, cap2, u, hv, _, hg2, _, _, q, hui⟩ := HLEV.out.at (k := j) (by rw [lvA_length]; exact hlt)
            obtain rfl : g = g2 := by injection hv with h1; injection h1 with h2; injection h2
            rw [lvA_at _ _ _ _ (by omega), hys, Option.getD_some] at hui
            have hyl := levL_len hys
            have HH := Lib.hid (l1Has_at n hui (by omega))
            have HYS : Hid ((levL false t p r j).getD [] = ys) := Lib.hid (by rw [hys]; rfl)
            obtain ⟨ua, uc, rfl⟩ := hui.form
            clear hys hv hui hyl
            by_cases hm : n ∈ ys
            · have HF := Lib.hid (HFS.out j hlt (by rw [HYS.out]; exact hm) HNO.out)
              rw [decide_eq_true hm] at HH
              clear hm
              go_wp2_with (go_at_call 53; refine HH.out.mono ?_; rintro e w' ⟨rfl, rfl⟩)
              go_ret2
              exact ⟨by rw [HF.out]; rfl, HB2.out⟩
            · have HNO2 : Hid (∀ m, m < j + 1 → n ∉ (levL false t p r m).getD []) := Lib.hid (fun m hmj => by
                by_cases e : m = j
                · subst e; rw [HYS.out]; exact hm
                · exact HNO.out m (by omega))
              rw [decide_eq_false hm] at HH
              clear hm
              go_wp2_with (go_at_call 53; refine HH.out.mono ?_; rintro e w' ⟨rfl, rfl⟩)
              exact ⟨⟨j + 1, hlt, by go_num, HNO2.out⟩, by simp [RowKit.intOf]; omega⟩
          · have HF : Hid (flO t p r K n = none) := Lib.hid (HFN.out (fun m hm => HNO.out m (by omega)))
            have hjj : ¬ ((j : Int) < (K : Int) + 1) := by omega
            clear hj hlt
            go_wp2_with fail
            go_ret2
            exact ⟨by rw [HF.out]; rfl, HB2.out⟩
      · have HX : Hid (flO t p r K n = none) := Lib.hid (flO_bad (by rw [lvB, HO.out, hxs]; rfl))
        have HB2 := Lib.hid (HB1.out.trans (hb2.mono (Nat.le_of_lt hz)))
        clear hxs hb2 c0 c1
        go_wp2_with fail
        go_ret2
        exact ⟨by rw [HX.out]; rfl, HB2.out⟩
theorem sFirstLevelOf (t p r k n : Int) (w : World) :
    Calls Try.prog 21 #[.agg #[.int .i64 t, .int .i64 p], .int .i64 r, .int .i64 k, .int .i64 n] w fun e w' => e = .returned (.tuple #[.int .i64 (((flO t p r k n).getD 0 : Nat) : Int), .bool (flO t p r k n).isSome]) ∧ Below w.heap.size w w' := by
  have HL := Lib.hid (fun w => trFirst_any t p r k n w)
  go_enter Try.func21, Try.ntmps21
  go_wp2_with fail
  refine (HL.out _).mono ?_
  rintro e w1 ⟨rfl, hb1⟩
  obtain ⟨c0, c1, hz, hb⟩ := map_block hb1
  clear hb1 HL
  go_wp2_with fail
  go_ret2
  exact ⟨rfl, hb⟩

/-- What holds at the jump. -/
def FirstJ (t p r k n : Int) (w : World) (a : Act) (W : World) : Prop :=
  ∃ (j : Nat) (u0 u1 u2 u3 u4 u5 u6 u7 u8 u9 u10 u11 u13 u14 u15 u16 u17 u18 u19 u20 u21 u22 u23 u24 u25 u26 u27 u28 u29 u30 u31 u32 u33 u34 : Value), a = { tmps := #[u0, u1, u2, u3, u4, u5, u6, u7, u8, u9, u10, u11, .int .i64 (j : Int), u13, u14, u15, u16, u17, u18, u19, u20, u21, u22, u23, u24, u25, u26, u27, u28, u29, u30, u31, u32, u33, u34], defers := [] } ∧ flO t p r k n = some j ∧ Below w.heap.size w W
set_option maxRecDepth 100000 in
set_option maxHeartbeats 4000000 in
theorem iFirstLevelOf (t p r k n : Int) (hn : (Lit.int .i64 n).wf = true) (w : World) :
    Calls Try.prog 20 #[.agg #[.int .i64 t, .int .i64 p], .int .i64 r, .int .i64 k, .int .i64 n] w fun e w' => e = .returned (.tuple #[.int .i64 (((flO t p r k n).getD 0 : Nat) : Int), .bool (flO t p r k n).isSome]) ∧ Below w.heap.size w w' := by
  have HL := Lib.hid (fun w => levelsOf_any false rfl t p r k w)
  rw [show bfF false = 52 from rfl] at HL
  have HWF := Lib.hid hn
  clear hn
  go_enter Try.func20, Try.ntmps20
  go_wp2
  refine wp_scope_jumps 0 (FirstJ t p r k n w) (fun _ _ => 0) rfl ?_ ?_
  · go_wp2_with fail
    refine (HL.out _).mono ?_
    rintro e w1 ⟨hb1, (⟨K, xs, v, rfl, ho, hxs, rfl, hlev⟩ | ⟨ho, rfl⟩)⟩
    · obtain ⟨c0, c1, hz, hb⟩ := map_block hb1
      have HB := Lib.hid hb
      have HBB : Hid (lvB false t p r K = true) := Lib.hid (by rw [lvB, ho]; rfl)
      have HFS := Lib.hid (fun j hj hm hno => flO_some (n := n) (j := j) HBB.out hj hm hno)
      have HFN := Lib.hid (fun hno => flO_none (t := t) (p := p) (r := r) (n := n) (K := K) hno)
      have HXS := Lib.hid hxs
      have HLEV := Lib.hid hlev
      obtain ⟨bs, hrow, hbl, hbs⟩ := hlev
      rw [lvA_length] at hrow
      obtain ⟨g, cap, rfl, hgB, hgl, hcap, hcm, _⟩ := row_cells hrow (by omega)
      have hcap2 : (K : Int) + 1 ≤ (cap : Int) := by omega
      have hcm2 : (cap : Int) ≤ 9223372036854775807 := by unfold maxLen at hcm; omega
      have hK2 : (K : Int) ≤ 20 := by obtain ⟨_, _, _, K', hKK, hK20, _⟩ := lvO_some ho; omega
      clear hb1 hb ho hxs hrow hbl hbs hcm c0 c1 HL
      go_wp2_with fail
      go_loop [24] (fun i => ∃ j : Nat, j ≤ K + 1 ∧ i = .int .i64 j ∧ ∀ m, m < j → n ∉ (levL false t p r m).getD []) (fun i => K + 1 - (RowKit.intOf i).toNat)
      case atStart => exact ⟨0, by omega, rfl, by simp⟩
      case round =>
        obtain ⟨j, hj, rfl, hno⟩ := hrel
        have HNO := Lib.hid hno
        clear hno
        by_cases hlt : j < K + 1
        · have hjK : (j : Int) < (K : Int) + 1 := by omega
          obtain ⟨ys, hys⟩ := levL_lower (j := j) (by omega) HXS.out
          obtain ⟨g2, cap2, b, hv, _, hg2, _, _, q, hset⟩ := HLEV.out.at (k := j) (by rw [lvA_length]; exact hlt)
          obtain rfl : g = g2 := by injection hv with h1; injection h1 with h2; injection h2
          rw [lvA_at _ _ _ _ (by omega), hys, Option.getD_some] at hset
          have hlk := hset.look HWF.out
          have HYS : Hid ((levL false t p r j).getD [] = ys) := Lib.hid (by rw [hys]; rfl)
          clear hys hv hset
          by_cases hm : n ∈ ys
          · have HF := Lib.hid (HFS.out j hlt (by rw [HYS.out]; exact hm) HNO.out)
            rw [decide_eq_true hm] at hlk
            clear hm
            go_wp2_with fail
            go_step3
            exact ⟨rfl, j, _, _, _, _, _, _, _, _, _, _, _, _, _, _, _, _, _, _, _, _, _, _, _, _, _, _, _, _, _, _, _, _, _, _, rfl, HF.out, HB.out⟩
          · have HNO2 : Hid (∀ m, m < j + 1 → n ∉ (levL false t p r m).getD []) := Lib.hid (fun m hmj => by
              by_cases e : m = j
              · subst e; rw [HYS.out]; exact hm
              · exact HNO.out m (by omega))
            rw [decide_eq_false hm] at hlk
            clear hm
            go_wp2_with fail
            exact ⟨⟨j + 1, hlt, by go_num, HNO2.out⟩, by simp [RowKit.intOf]; omega⟩
        · have HF : Hid (flO t p r K n = none) := Lib.hid (HFN.out (fun m hm => HNO.out m (by omega)))
          have hjj : ¬ ((j : Int) < (K : Int) + 1) := by omega
          clear hj hlt
          go_wp2_with fail
          try simp only [Exit.jump]
          go_ret2
          exact ⟨by rw [HF.out]; rfl, HB.out⟩
    · obtain ⟨c0, c1, hz, hb⟩ := map_block hb1
      have HX : Hid (flO t p r k n = none) := Lib.hid (flO_bad (by rw [lvB, ho]; rfl))
      have HB := Lib.hid hb
      clear hb1 hb ho HL c0 c1
      go_wp2_with fail
      try simp only [Exit.jump]
      go_ret2
      exact ⟨by rw [HX.out]; rfl, HB.out⟩
  · rintro a W ⟨j, u0, u1, u2, u3, u4, u5, u6, u7, u8, u9, u10, u11, u13, u14, u15, u16, u17, u18, u19, u20, u21, u22, u23, u24, u25, u26, u27, u28, u29, u30, u31, u32, u33, u34, rfl, hfo, hb⟩
    have HF := Lib.hid hfo
    have HB := Lib.hid hb
    clear hfo hb HL
    go_wp2_with fail
    try simp only [Exit.jump]
    go_ret2
    exact ⟨by rw [HF.out]; rfl, HB.out⟩

/-- The path to the root. -/
def ptX (t p r k n : Int) : List Int := match flO t p r k n with
  | some j => pathL (nx t p) n j
  | none => []
theorem flO_path {t p r k n : Int} {j : Nat} (h : flO t p r k n = some j) : goodB t p = true ∧ numB n = true ∧ j ≤ 20 ∧ allB (nx t p) n (j + 1) = true := by
  cases hB : lvB false t p r k
  · rw [flO_bad hB] at h; cases h
  · cases ho : lvO false t p r k with
    | none => rw [lvB, ho] at hB; cases hB
    | some xs =>
      obtain ⟨_, hg, hr, K, rfl, hK, hl⟩ := lvO_some ho
      rw [flO, if_pos hB, Int.toNat_natCast, List.find?_range_eq_some] at h
      obtain ⟨h1, h2, _⟩ := h
      have hj := List.mem_range.1 h2
      have hm := of_decide_eq_true h1
      obtain ⟨ys, hys⟩ := levL_lower (j := j) (by omega) hl
      rw [hys] at hm
      have := (levL_mem hg hr j ys hys n).1 hm
      exact ⟨hg, levL_num hg hr hys hm, by omega, this.2⟩
theorem ptX_len (t p r k n : Int) : (ptX t p r k n).length ≤ 1000000000000 := by
  unfold ptX
  split
  · rename_i j h
    have := (flO_path h).2.2.1
    rw [pathL_length]; omega
  · simp
set_option maxHeartbeats 2000000 in
theorem sPathToRoot (t p r k n : Int) (w : World) :
    Calls Try.prog 23 #[.agg #[.int .i64 t, .int .i64 p], .int .i64 r, .int .i64 k, .int .i64 n] w (RetInts (ptX t p r k n) (flO t p r k n).isSome w) := by
  have HL := Lib.hid (fun w => trFirst_any t p r k n w)
  cases ho : flO t p r k n with
  | none =>
    have HX : Hid (ptX t p r k n = []) := Lib.hid (by rw [ptX, ho])
    rw [ho] at HL
    clear ho
    go_enter Try.func23, Try.ntmps23
    go_wp2_with fail
    refine (HL.out _).mono ?_
    rintro e w1 ⟨rfl, hb1⟩
    obtain ⟨c0, c1, hz, hb⟩ := map_block hb1
    clear hb1 HL
    go_wp2_with fail
    go_ret2
    exact retI_none' HX.out rfl hb
  | some j =>
    obtain ⟨hg, hn, hj, hall⟩ := flO_path ho
    have HX : Hid (ptX t p r k n = pathL (nx t p) n j) := Lib.hid (by rw [ptX, ho])
    have HP := Lib.hid (fun w => mpPath_any t p n j w hg hn (by omega))
    rw [hall, show pathOr (nx t p) n j = pathL (nx t p) n j by rw [pathOr, if_pos hall]] at HP
    rw [ho] at HL
    clear ho hg hn hall
    go_enter Try.func23, Try.ntmps23
    go_wp2_with fail
    refine (HL.out _).mono ?_
    rintro e w1 ⟨rfl, hb1⟩
    obtain ⟨c0, c1, hz, hb⟩ := map_block hb1
    have HB := Lib.hid hb
    clear hb1 HL hb
    go_wp2_with fail
    refine (HP.out _).mono ?_
    rintro e w2 ⟨v, rfl, hrow, hb2, _⟩
    have HR : Hid (IntsAt w2 w.heap.size v (pathL (nx t p) n j)) := Lib.hid (ownsRow_base hrow (Nat.le_of_lt hz))
    have HB2 := Lib.hid (HB.out.trans (hb2.mono (Nat.le_of_lt hz)))
    clear hrow hb2 c0 c1
    go_wp2_with fail
    go_ret2
    rw [HX.out]
    exact ⟨v, rfl, HR.out, HB2.out⟩
set_option maxHeartbeats 2000000 in
theorem iPathToRoot (t p r k n : Int) (hn : (Lit.int .i64 n).wf = true) (w : World) :
    Calls Try.prog 22 #[.agg #[.int .i64 t, .int .i64 p], .int .i64 r, .int .i64 k, .int .i64 n] w (RetInts (ptX t p r k n) (flO t p r k n).isSome w) := by
  have HL := Lib.hid (fun w => iFirstLevelOf t p r k n hn w)
  cases ho : flO t p r k n with
  | none =>
    have HX : Hid (ptX t p r k n = []) := Lib.hid (by rw [ptX, ho])
    rw [ho] at HL
    clear ho hn
    go_enter Try.func22, Try.ntmps22
    go_wp2_with fail
    refine (HL.out _).mono ?_
    rintro e w1 ⟨rfl, hb1⟩
    obtain ⟨c0, c1, hz, hb⟩ := map_block hb1
    clear hb1 HL
    go_wp2_with fail
    go_ret2
    exact retI_none' HX.out rfl hb
  | some j =>
    obtain ⟨hg, hnn, hj, hall⟩ := flO_path ho
    have HX : Hid (ptX t p r k n = pathL (nx t p) n j) := Lib.hid (by rw [ptX, ho])
    have hask : askB t p n j = true := askB_iff.2 ⟨hg, hnn, by omega, by omega⟩
    have hB : pofB t p n j = true := by rw [pofB, aft_two, hask, Int.toNat_natCast, hall]; simp; omega
    have hX : pofL t p n j = pathL (nx t p) n j := by rw [pofL, if_pos hB, Int.toNat_natCast]
    have HP := Lib.hid (fun w => iPathOf t p n j w)
    rw [hB, hX] at HP
    rw [ho] at HL
    clear ho hg hnn hall hask hB hX hn
    go_enter Try.func22, Try.ntmps22
    go_wp2_with fail
    refine (HL.out _).mono ?_
    rintro e w1 ⟨rfl, hb1⟩
    obtain ⟨c0, c1, hz, hb⟩ := map_block hb1
    have HB := Lib.hid hb
    clear hb1 HL hb
    go_wp2_with fail
    refine (HP.out _).mono ?_
    rintro e w2 ⟨v, rfl, hrow, hb2, _⟩
    have HR : Hid (IntsAt w2 w.heap.size v (pathL (nx t p) n j)) := Lib.hid (ownsRow_base hrow (Nat.le_of_lt hz))
    have HB2 := Lib.hid (HB.out.trans (hb2.mono (Nat.le_of_lt hz)))
    clear hrow hb2 c0 c1
    go_wp2_with fail
    go_ret2
    rw [HX.out]
    exact ⟨v, rfl, HR.out, HB2.out⟩
end Go.Proofs.Ytjcpdlamgjpmmaa

namespace Go.Proofs.Ytjcpdlamgjpmmaa
open Go.RowKit Go.Maps
set_option linter.unusedVariables false

/-- Is it of a size of at most l? -/
def inR (l x : Int) : Bool := decide (-l ≤ x ∧ x ≤ l)
def addF (l : Int) (acc : List Int) (x : Int) : List Int := if inR l x = true ∧ x ∉ acc then acc ++ [x] else acc
def ddX (l : Int) (acc xs : List Int) : List Int := xs.foldl (addF l) acc
/-- The numbers of the first levels, each once, of this size. -/
def ddA (l t p r : Int) : Nat → List Int
  | 0 => []
  | j + 1 => ddX l (ddA l t p r j) ((levL false t p r j).getD [])
theorem mem_ddX {l z : Int} : ∀ (xs acc : List Int), z ∈ ddX l acc xs ↔ z ∈ acc ∨ (z ∈ xs ∧ inR l z = true)
  | [], acc => by simp [ddX]
  | x :: xs, acc => by
    have ih := mem_ddX (l := l) (z := z) xs (addF l acc x)
    rw [show ddX l acc (x :: xs) = ddX l (addF l acc x) xs from rfl, ih]
    unfold addF
    split
    · rename_i h
      rw [List.mem_append, List.mem_singleton, List.mem_cons]
      constructor
      · rintro ((h1 | rfl) | h1)
        · exact .inl h1
        · exact .inr ⟨.inl rfl, h.1⟩
        · exact .inr ⟨.inr h1.1, h1.2⟩
      · rintro (h1 | ⟨rfl | h1, h2⟩)
        · exact .inl (.inl h1)
        · exact .inl (.inr rfl)
        · exact .inr ⟨h1, h2⟩
    · rename_i h
      rw [List.mem_cons]
      constructor
      · rintro (h1 | h1)
        · exact .inl h1
        · exact .inr ⟨.inr h1.1, h1.2⟩
      · rintro (h1 | ⟨rfl | h1, h2⟩)
        · exact .inl h1
        · by_cases hm : z ∈ acc
          · exact .inl hm
          · exact absurd ⟨h2, hm⟩ h
        · exact .inr ⟨h1, h2⟩
theorem addF_nodup {l : Int} {acc : List Int} (x : Int) (h : acc.Nodup) : (addF l acc x).Nodup := by
  unfold addF
  split
  · rename_i hc
    refine List.nodup_append.2 ⟨h, by simp, fun a ha b hb => ?_⟩
    rw [List.mem_singleton] at hb
    subst hb
    exact fun e => hc.2 (e ▸ ha)
  · exact h
theorem ddX_nodup {l : Int} : ∀ (xs acc : List Int), acc.Nodup → (ddX l acc xs).Nodup
  | [], acc, h => h
  | x :: xs, acc, h => ddX_nodup xs _ (addF_nodup x h)
theorem ddX_len {l : Int} : ∀ (xs acc : List Int), (ddX l acc xs).length ≤ acc.length + xs.length
  | [], acc => Nat.le_refl _
  | x :: xs, acc => by
    have ih := ddX_len (l := l) xs (addF l acc x)
    have h : (addF l acc x).length ≤ acc.length + 1 := by unfold addF; split <;> simp
    rw [show ddX l acc (x :: xs) = ddX l (addF l acc x) xs from rfl, List.length_cons]
    omega
theorem ddA_nodup (l t p r : Int) : ∀ j, (ddA l t p r j).Nodup
  | 0 => List.nodup_nil
  | j + 1 => ddX_nodup _ _ (ddA_nodup l t p r j)
theorem ddA_len (l t p r : Int) : ∀ j, (ddA l t p r j).length ≤ 2000 * j
  | 0 => Nat.zero_le _
  | j + 1 => by
    have h1 := ddA_len l t p r j
    have h2 := ddX_len (l := l) ((levL false t p r j).getD []) (ddA l t p r j)
    have h3 : ((levL false t p r j).getD []).length ≤ 2000 := by
      cases h : levL false t p r j with
      | none => simp
      | some xs => exact levL_len h
    rw [ddA]
    omega
theorem take_ddX {l : Int} {acc xs : List Int} {m : Nat} (h : m < xs.length) : ddX l acc (xs.take (m + 1)) = addF l (ddX l acc (xs.take m)) (xs.getD m 0) := by
  rw [ddX, List.take_add_one, List.getElem?_eq_getElem h, List.foldl_append, List.getD_eq_getElem?_getD, List.getElem?_eq_getElem h]
  rfl
/-- What InTreeUpTo comes to. -/
def itB (t p r k l : Int) : Bool := lvB false t p r k && inB l 0 1000000000000
def itX (t p r k l : Int) : List Int := if itB t p r k l = true then srtI (ddA l t p r (k.toNat + 1)) else []
theorem itX_len (t p r k l : Int) : (itX t p r k l).length ≤ 1000000000000 := by
  unfold itX
  split
  · rename_i h
    have hB : lvB false t p r k = true := by simp only [itB, Bool.and_eq_true] at h; exact h.1
    cases ho : lvO false t p r k with
    | none => rw [lvB, ho] at hB; cases hB
    | some xs =>
      obtain ⟨_, _, _, K, rfl, hK, _⟩ := lvO_some ho
      have := ddA_len l t p r ((K : Int).toNat + 1)
      rw [srt_length]
      omega
  · simp
theorem itX_false {t p r k l : Int} (h : itB t p r k l = false) : itX t p r k l = [] := by rw [itX, if_neg (by simp [h])]

theorem l1Abs_any (n : Int) (w : World) (n1 : -1000000000000 ≤ n) (n2 : n ≤ 1000000000000) :
    Calls Try.prog 62 #[.int .i64 n] w fun e w' => e = .returned (.int .i64 (if -n < n then n else -n)) ∧ w = w' := by
  by_cases h : -n < n
  all_goals
    go_enter Try.func62, Try.ntmps62
    go_wp2
    go_ret
    simp

set_option maxRecDepth 100000 in
set_option maxHeartbeats 8000000 in
theorem sInTreeUpTo (t p r k l : Int) (w : World) :
    Calls Try.prog 26 #[.agg #[.int .i64 t, .int .i64 p], .int .i64 r, .int .i64 k, .int .i64 l] w (RetInts (itX t p r k l) (itB t p r k l) w) := by
  obtain ⟨i0, hi, hi0, hi1, hi2⟩ := info_parts info3
  have HA := Lib.hid (fun w => trAsked_any t p r k w)
  have HI := Lib.hid (fun w => l1In_any l 0 1000000000000 w)
  cases ha : askT t p r k
  · have HBB : Hid (itB t p r k l = false) := Lib.hid (by rw [itB, lvB, lvO_no ha]; rfl)
    have HX := Lib.hid (itX_false HBB.out)
    rw [ha] at HA
    clear ha hi hi0 hi1 hi2
    go_enter Try.func26, Try.ntmps26
    go_wp2_with fail
    refine (HA.out _).mono ?_
    rintro e w1 ⟨rfl, hb1⟩
    obtain ⟨c0, c1, hz, hb⟩ := map_block hb1
    clear hb1
    go_wp2_with fail
    go_ret2
    exact retI_none' HX.out HBB.out hb
  · rw [ha] at HA
    cases hl : inB l 0 1000000000000
    · have HBB : Hid (itB t p r k l = false) := Lib.hid (by rw [itB, hl, Bool.and_false])
      have HX := Lib.hid (itX_false HBB.out)
      rw [hl] at HI
      clear ha hl hi hi0 hi1 hi2
      go_enter Try.func26, Try.ntmps26
      go_wp2_with fail
      refine (HA.out _).mono ?_
      rintro e w1 ⟨rfl, hb1⟩
      obtain ⟨c0, c1, hz, hb⟩ := map_block hb1
      clear hb1
      go_wp2_with (go_at_call 60; refine (HI.out _).mono ?_; rintro e w' ⟨rfl, rfl⟩)
      go_ret2
      exact retI_none' HX.out HBB.out hb
    · obtain ⟨hg, hr, _, K, rfl, hK⟩ := askT_parts ha
      have HL := Lib.hid (fun w => trLevels_any false t p r K w hg hr hK)
      have HO := Lib.hid (lvO_yes (short := false) ha)
      have HLI := Lib.hid hl
      have HNUM := Lib.hid (fun j ys x (h : levL false t p r j = some ys) (hx : x ∈ ys) => numB_iff.1 (levL_num hg hr h hx))
      have hl2 : 0 ≤ l ∧ l ≤ 1000000000000 := by simpa [inB] using hl
      obtain ⟨l1, l2⟩ := hl2
      have hK2 : (K : Int) ≤ 20 := by omega
      rw [hl] at HI
      clear ha hg hr hl
      go_enter Try.func26, Try.ntmps26
      go_wp2_with fail
      refine (HA.out _).mono ?_
      rintro e w1 ⟨rfl, hb1⟩
      obtain ⟨c0, c1, hz, hb⟩ := map_block hb1
      have HB1 := Lib.hid hb
      clear hb1 hb
      go_wp2_with (go_at_call 60; refine (HI.out _).mono ?_; rintro e w' ⟨rfl, rfl⟩)
      refine (HL.out _).mono ?_
      rintro e w2 ⟨hb2, (⟨xs, v, hxs, rfl, hlev⟩ | ⟨hxs, rfl⟩)⟩
      · have HBB : Hid (itB t p r K l = true) := Lib.hid (by rw [itB, lvB, HO.out, hxs, HLI.out]; rfl)
        have HX : Hid (itX t p r K l = srtI (ddA l t p r (K + 1))) := Lib.hid (by rw [itX, if_pos HBB.out, Int.toNat_natCast])
        have HXS := Lib.hid hxs
        have HLEV := Lib.hid hlev
        have HB2 := Lib.hid (HB1.out.trans (hb2.mono (Nat.le_of_lt hz)))
        have hz2 := Nat.lt_of_lt_of_le hz hb2.size
        obtain ⟨vs, hrow, hbl, hbs⟩ := hlev
        rw [lvA_length] at hrow
        obtain ⟨g, cap, rfl, hgB, hgl, hcap, hcm, _⟩ := row_cells hrow (by omega)
        have hcap2 : (K : Int) + 1 ≤ (cap : Int) := by omega
        have hcm2 : (cap : Int) ≤ 9223372036854775807 := by unfold maxLen at hcm; omega
        obtain ⟨wo, rfl⟩ : ∃ wo : World, wo = w2 := ⟨_, rfl⟩
        clear hb2 hxs hrow hbl hbs hcm c0 c1 HL
        go_wp2_with fail
        go_loopw [12, 38] (fun c i wr => ∃ j : Nat, j ≤ K + 1 ∧ i = .int .i64 j ∧ IntsAt wr wo.heap.size c (ddA l t p r j) ∧ Below wo.heap.size wo wr) (fun _ i _ => K + 1 - (RowKit.intOf i).toNat)
        case atStart => exact ⟨0, by omega, rfl, intsAt_nil _ _, Below.refl _ _⟩
        case round =>
          obtain ⟨j, hj, rfl, hown, hbr⟩ := hrel
          have HOO := Lib.hid hown
          have HBR := Lib.hid hbr
          have hsS := hbr.size
          by_cases hlt : j < K + 1
          · have hjK : (j : Int) < (K : Int) + 1 := by omega
            obtain ⟨ys, hys⟩ := levL_lower (j := j) (by omega) HXS.out
            obtain ⟨g2, cap2, u, hv, _, hg2, _, _, q0, hui⟩ := HLEV.out.at (k := j) (by rw [lvA_length]; exact hlt)
            obtain rfl : g = g2 := by injection hv with h1; injection h1 with h2; injection h2
            rw [lvA_at _ _ _ _ (by omega), hys, Option.getD_some] at hui
            obtain ⟨ua, uc, rfl, huc⟩ := hui.lts
            have q := (hbr.cell (p := ⟨g, j, none⟩) hg2).trans q0
            have hyl := levL_len hys
            have hdl := ddA_len l t p r j
            have HYS : Hid ((levL false t p r j).getD [] = ys) := Lib.hid (by rw [hys]; rfl)
            have HDD : Hid (ddA l t p r (j + 1) = ddX l (ddA l t p r j) ys) := Lib.hid (by rw [ddA, HYS.out])
            have HNM := Lib.hid (fun x hx => HNUM.out j ys x hys hx)
            have HUC := Lib.hid huc
            obtain ⟨L, hL⟩ : ∃ L, ys.length = L := ⟨_, rfl⟩
            have HLL := Lib.hid hL
            rw [hL] at HUC hyl q
            obtain ⟨ds, hds⟩ : ∃ ds, ddA l t p r j = ds := ⟨_, rfl⟩
            rw [hds] at HOO HDD hdl
            obtain ⟨wp, rfl⟩ : ∃ wp : World, wp = wr := ⟨_, rfl⟩
            have HST : Hid (IntsAt wp wo.heap.size _ (ddX l ds [])) := HOO
            clear hown hbr hys hv hui huc hL hds q0
            go_wp2_with fail
            go_loopw [12, 44] (fun c i wr => ∃ m : Nat, m ≤ L ∧ i = .int .i64 m ∧ IntsAt wr wo.heap.size c (ddX l ds (ys.take m)) ∧ Below wo.heap.size wo wr) (fun _ i _ => L - (RowKit.intOf i).toNat)
            case atStart => exact ⟨0, Nat.zero_le _, rfl, by rw [List.take_zero]; exact HST.out, HBR.out⟩
            case round =>
              obtain ⟨m, hm, rfl, hown, hbr⟩ := hrel
              have HO3 := Lib.hid hown
              have HBR3 := Lib.hid hbr
              have hs3 := hbr.size
              by_cases hml : m < L
              · have hml2 : (m : Int) < (L : Int) := by omega
                have hmx : m < ys.length := by rw [HLL.out]; exact hml
                obtain ⟨gu, rfl, hgu, huc1, huc2, huq⟩ := HUC.out m hml
                have q2 := (hbr.cell (p := ⟨gu, m, none⟩) hgu).trans huq
                have hxm : ys.getD m 0 ∈ ys := by rw [List.getD_eq_getElem?_getD, List.getElem?_eq_getElem hmx]; exact List.getElem_mem hmx
                obtain ⟨nb1, nb2⟩ := HNM.out _ hxm
                have HTK := Lib.hid (take_ddX (l := l) (acc := ds) hmx)
                have hol := ddX_len (l := l) (ys.take m) ds
                rw [List.length_take] at hol
                obtain ⟨x, hx⟩ : ∃ x, ys.getD m 0 = x := ⟨_, rfl⟩
                rw [hx] at q2 HTK nb1 nb2
                have HAB := Lib.hid (fun w => l1Abs_any x w nb1 nb2)
                have HRI : Hid (inR l x = decide ((if -x < x then x else -x) ≤ l)) := Lib.hid (by
                  rw [inR, decide_eq_decide]
                  split <;> constructor <;> intro h <;> omega)
                obtain ⟨A, hAA⟩ : ∃ A, (if -x < x then x else -x) = A := ⟨_, rfl⟩
                rw [hAA] at HAB HRI
                obtain ⟨os, hos⟩ : ∃ os, ddX l ds (ys.take m) = os := ⟨_, rfl⟩
                rw [hos] at HO3 HTK hol
                have HH := Lib.hid (l1Has_at x HO3.out (by omega))
                obtain ⟨na, nc, rfl⟩ := HO3.out.form
                have hu1 : (L : Int) ≤ (uc : Int) := by omega
                have hu2 : (uc : Int) ≤ 9223372036854775807 := by unfold maxLen at huc2; omega
                have hj3 : os.length + 1 ≤ maxLen := by unfold maxLen; omega
                clear hown hbr hx hxm hmx huq huc2 hAA hos
                by_cases hin : A ≤ l
                · by_cases hmem : x ∈ os
                  · have HT : Hid (ddX l ds (ys.take (m + 1)) = os) := Lib.hid (by rw [HTK.out, addF, if_neg (fun h => h.2 hmem)])
                    rw [decide_eq_true hmem] at HH
                    clear hmem
                    go_wp2_with (first
                      | (go_at_call 62; refine (HAB.out _).mono ?_; rintro e w' ⟨rfl, rfl⟩)
                      | (go_at_call 53; refine HH.out.mono ?_; rintro e w' ⟨rfl, rfl⟩))
                    exact ⟨⟨m + 1, hml, by go_num, by rw [HT.out]; exact HO3.out, HBR3.out⟩, by simp [RowKit.intOf]; omega⟩
                  · have HT : Hid (ddX l ds (ys.take (m + 1)) = os ++ [x]) := Lib.hid (by rw [HTK.out, addF, if_pos ⟨by rw [HRI.out, decide_eq_true hin], hmem⟩])
                    rw [decide_eq_false hmem] at HH
                    clear hmem
                    go_wp2_with (first
                      | (go_at_call 62; refine (HAB.out _).mono ?_; rintro e w' ⟨rfl, rfl⟩)
                      | (go_at_call 53; refine HH.out.mono ?_; rintro e w' ⟨rfl, rfl⟩)
                      | (at_builtin; refine wpList_append_own _ rfl _ _ 28 rfl wo.heap.size 3 i0 (.int .i64 0) 1 8 Try.underlying28 hi hi0 hi1 hi2 rfl (by decide) _ _ _ rfl (HO3.out.alloc _) ⟨wr.heap.size, 0, none⟩ 1 1 [.int .i64 x] rfl rfl (fun j u hu => new_cell _ _ _ hu) (by simp [Value.oneCell']) hj3 (by omega) (by simp; omega) ?_; intro v5 w5 hown5 hgrow5 _))
                    refine ⟨⟨m + 1, hml, by go_num, ?_, (HBR3.out.alloc hs3 _).grown hgrow5 (by simp; omega) (fun k e => (World.ownsRow.lt HO3.out k e).1)⟩, by simp [RowKit.intOf]; omega⟩
                    rw [HT.out]
                    unfold IntsAt
                    rw [List.length_append, List.map_append]
                    exact hown5
                · have HT : Hid (ddX l ds (ys.take (m + 1)) = os) := Lib.hid (by rw [HTK.out, addF, if_neg (fun h => by rw [HRI.out, decide_eq_false hin] at h; cases h.1)])
                  go_wp2_with (go_at_call 62; refine (HAB.out _).mono ?_; rintro e w' ⟨rfl, rfl⟩)
                  exact ⟨⟨m + 1, hml, by go_num, by rw [HT.out]; exact HO3.out, HBR3.out⟩, by simp [RowKit.intOf]; omega⟩
              · obtain rfl : m = L := by omega
                have hml2 : ¬ ((m : Int) < (m : Int)) := by omega
                have HT : Hid (ddA l t p r (j + 1) = ddX l ds (ys.take m)) := Lib.hid (by rw [HDD.out, List.take_of_length_le (by have := HLL.out; omega)])
                clear hown hbr
                go_wp2_with fail
                exact ⟨⟨j + 1, hlt, by go_num, by rw [HT.out]; exact HO3.out, HBR3.out⟩, by simp [RowKit.intOf]; omega⟩
          · have HJ : Hid (j = K + 1) := Lib.hid (by omega)
            have hjj : ¬ ((j : Int) < (K : Int) + 1) := by omega
            have hdl := ddA_len l t p r j
            have HSORT := Lib.hid (trSorted_any hown (by omega))
            obtain ⟨oa, oc, rfl⟩ := hown.form
            clear hown hbr hj hlt
            go_wp2_with fail
            refine HSORT.out.mono ?_
            rintro e w3 ⟨v3, rfl, hr3, hb3⟩
            have HR3 := Lib.hid hr3
            have HB3 := Lib.hid (HBR.out.trans (hb3.mono hsS))
            clear hr3 hb3
            go_wp2_with fail
            go_ret2
            rw [HBB.out, HX.out, ← HJ.out]
            exact ⟨_, rfl, ownsRow_base HR3.out (by omega), HB2.out.trans (HB3.out.mono (Nat.le_of_lt hz2))⟩
      · have HBB : Hid (itB t p r K l = false) := Lib.hid (by rw [itB, lvB, HO.out, hxs]; rfl)
        have HX := Lib.hid (itX_false HBB.out)
        have HB2 := Lib.hid (HB1.out.trans (hb2.mono (Nat.le_of_lt hz)))
        clear hxs hb2 c0 c1
        go_wp2_with fail
        go_ret2
        exact retI_none' HX.out HBB.out HB2.out

set_option maxRecDepth 100000 in
set_option maxHeartbeats 8000000 in
theorem iInTreeUpTo (t p r k l : Int) (w : World) :
    Calls Try.prog 25 #[.agg #[.int .i64 t, .int .i64 p], .int .i64 r, .int .i64 k, .int .i64 l] w (RetInts (itX t p r k l) (itB t p r k l) w) := by
  have HL := Lib.hid (fun w => levelsOf_any false rfl t p r k w)
  rw [show bfF false = 52 from rfl] at HL
  have hmm := @run_makeMap Try.prog
  go_enter Try.func25, Try.ntmps25
  go_wp2_with fail
  refine (HL.out _).mono ?_
  rintro e w1 ⟨hb1, (⟨K, xs, v, rfl, ho, hxs, rfl, hlev⟩ | ⟨ho, rfl⟩)⟩
  · obtain ⟨c0, c1, hz, hb⟩ := map_block hb1
    obtain ⟨_, hg, hr, K', hKK, hK20, _⟩ := lvO_some ho
    obtain rfl : K = K' := by omega
    have HB := Lib.hid hb
    have hBB : lvB false t p r K = true := by rw [lvB, ho]; rfl
    by_cases l1 : 0 ≤ l
    case neg =>
      have l3 : l < 0 := by omega
      have HBB : Hid (itB t p r K l = false) := Lib.hid (by rw [itB, show inB l 0 1000000000000 = false by simp [inB]; omega, Bool.and_false])
      have HX := Lib.hid (itX_false HBB.out)
      clear hb1 hb ho hxs hlev hg hr hKK c0 c1 HL hBB
      go_wp2_with fail
      go_ret2
      exact retI_none' HX.out HBB.out HB.out
    have l3 : ¬ (l < 0) := by omega
    by_cases l2 : l ≤ 1000000000000
    case neg =>
      have l4 : 1000000000000 < l := by omega
      have HBB : Hid (itB t p r K l = false) := Lib.hid (by rw [itB, show inB l 0 1000000000000 = false by simp [inB]; omega, Bool.and_false])
      have HX := Lib.hid (itX_false HBB.out)
      clear hb1 hb ho hxs hlev hg hr hKK c0 c1 HL hBB
      go_wp2_with fail
      go_ret2
      exact retI_none' HX.out HBB.out HB.out
    have l4 : ¬ (1000000000000 < l) := by omega
    have HBB : Hid (itB t p r K l = true) := Lib.hid (by rw [itB, hBB, show inB l 0 1000000000000 = true by simp [inB]; omega]; rfl)
    have HX : Hid (itX t p r K l = srtI (ddA l t p r (K + 1))) := Lib.hid (by rw [itX, if_pos HBB.out, Int.toNat_natCast])
    have HXS := Lib.hid hxs
    have HLEV := Lib.hid hlev
    have HNUM := Lib.hid (fun j ys x (h : levL false t p r j = some ys) (hx : x ∈ ys) => levL_num hg hr h hx)
    have HG := Lib.hid hg
    obtain ⟨bs, hrow, hbl, hbs⟩ := hlev
    rw [lvA_length] at hrow
    obtain ⟨g, cap, rfl, hgB, hgl, hcap, hcm, _⟩ := row_cells hrow (by omega)
    have hcap2 : (K : Int) + 1 ≤ (cap : Int) := by omega
    have hcm2 : (cap : Int) ≤ 9223372036854775807 := by unfold maxLen at hcm; omega
    have hK2 : (K : Int) ≤ 20 := by omega
    obtain ⟨wo, rfl⟩ : ∃ wo : World, wo = w1 := ⟨_, rfl⟩
    have HO0 := Lib.hid (World.ownsMap_made (H := Unit) wo Try.prog 3 (plainElem (H := Unit) Try.prog 4))
    clear hb1 hb ho hxs hrow hbl hbs hcm hg hr hKK c0 c1 HL hBB
    obtain ⟨S, hS⟩ : ∃ S, wo.heap.size = S := ⟨_, rfl⟩
    have HS := Lib.hid hS
    have HB0 : Hid (Below S wo (wo.alloc (.map #[] 0))) := Lib.hid (by rw [← hS]; exact (Below.refl _ _).alloc (Nat.le_refl _) _)
    rw [hS] at HO0 hz
    go_wp2_with fail
    have hs0 : S + 1 ≤ (wo.alloc (.map #[] 0)).heap.size := by simp; omega
    clear hS
    go_loopw [36] (fun i wr => ∃ j : Nat, j ≤ K + 1 ∧ i = .int .i64 j ∧ ∃ (n : Nat) (D : DataW Unit), wr.ownsMap Try.prog 3 (plainElem (H := Unit) Try.prog 4) S n D ∧ n ≤ 2000 * j ∧ (∀ z : Int, has D (.int .i64 z) = true ↔ z ∈ ddA l t p r j) ∧ AllTrue D ∧ Below S wo wr ∧ S + 1 ≤ wr.heap.size) (fun i _ => K + 1 - (RowKit.intOf i).toNat)
    case atStart => exact ⟨0, by omega, rfl, 0, _, HO0.out, Nat.le_refl _, by simp [has_eq, ddA], allTrue_empty, HB0.out, hs0⟩
    case round =>
      clear hs0
      obtain ⟨j, hj, rfl, n, D, hown, hn, hhas, hat, hbr, hs1⟩ := hrel
      have HO := Lib.hid hown
      have HHAS := Lib.hid hhas
      have HAT := Lib.hid hat
      have HBR := Lib.hid hbr
      by_cases hlt : j < K + 1
      · have hjK : (j : Int) < (K : Int) + 1 := by omega
        obtain ⟨ys, hys⟩ := levL_lower (j := j) (by omega) HXS.out
        obtain ⟨g2, cap2, b, hv, _, hg2, _, _, q0, hset⟩ := HLEV.out.at (k := j) (by rw [lvA_length]; exact hlt)
        obtain rfl : g = g2 := by injection hv with h1; injection h1 with h2; injection h2
        rw [lvA_at _ _ _ _ (by omega), hys, Option.getD_some] at hset
        have hbS : b < S := by have := hset.lt; have := HS.out; omega
        have q := (hbr.cell (p := ⟨g, j, none⟩) (by have := HS.out; omega : g < S)).trans q0
        have hyl := levL_len hys
        have HDD : Hid (ddA l t p r (j + 1) = ddX l (ddA l t p r j) ys) := Lib.hid (by rw [ddA, hys]; rfl)
        have HNM := Lib.hid (fun x hx => HNUM.out j ys x hys hx)
        obtain ⟨nb, DB, hownb, _, hDB, _⟩ := hset.under hbr hbS
        have hnd := nodup_lt (levL_lt HG.out hys)
        have hszb := (set_size hownb hDB hnd).1
        have HOB := Lib.hid hownb
        have HDB := Lib.hid hDB
        obtain ⟨wp, rfl⟩ : ∃ wp : World, wp = wr := ⟨_, rfl⟩
        clear hown hhas hat hbr hys hv hset q0 hownb hDB hnd
        go_wp2_with (at_range; refine wpList_range_own _ rfl _ 69 rfl 3 4 keyedInt Try.underlying69 (plainElem (H := Unit) Try.prog 4) b nb _ rfl HOB.out ?_; intro w0 hrg0 hg0 hs0)
        have hbe0 : Below S wo w0 := HBR.out.grown hg0 (by omega) (fun k e => by cases e)
        have hO1 : w0.ownsMap Try.prog 3 (plainElem (H := Unit) Try.prog 4) S n D := HO.out.kept hg0 (by simp)
        have HRG0 := Lib.hid hrg0
        have HBE0 := Lib.hid hbe0
        have HO1 := Lib.hid hO1
        have HCO0 := Lib.hid (CollectedI.start DB)
        have hsD : size DB ≤ 2000 := by omega
        obtain ⟨ri, hri⟩ : ∃ ri, wp.heap.size = ri := ⟨_, rfl⟩
        rw [hri] at HRG0 hs0 hs1 ⊢
        have hs02 : ri + 1 ≤ w0.heap.size := by omega
        clear hrg0 hg0 hbe0 hO1 hs0 hri q
        go_frame
        go_loopw [15] (fun _ wr => ∃ (left : Lit → Bool) (cnt : Nat) (ss : List Int) (n2 : Nat) (D2 : DataW Unit), wr.ranges Try.prog 3 (plainElem (H := Unit) Try.prog 4) b ri nb DB left cnt ∧ CollectedI DB left ss ∧ wr.ownsMap Try.prog 3 (plainElem (H := Unit) Try.prog 4) S n2 D2 ∧ n2 ≤ 2000 * j + ss.length ∧ ss.length + cnt ≤ size DB ∧ (∀ z : Int, has D2 (.int .i64 z) = true ↔ z ∈ ddA l t p r j ∨ (z ∈ ss ∧ inR l z = true)) ∧ AllTrue D2 ∧ Below S wo wr ∧ ri + 1 ≤ wr.heap.size) (fun _ wr => wr.rangeLeft b ri)
        case atStart => exact ⟨_, _, [], n, D, HRG0.out, HCO0.out, HO1.out, by simpa using hn, by simp, fun z => by rw [HHAS.out]; simp, HAT.out, HBE0.out, hs02⟩
        case round =>
          clear hs02
          obtain ⟨left, cnt, ss, n2, D2, hrg, hco, hown2, hn2, hcnt, hhas, hat2, hbel, hs2⟩ := hrel
          have HRG := Lib.hid hrg
          have HCO := Lib.hid hco
          have HO2 := Lib.hid hown2
          have HHAS2 := Lib.hid hhas
          have HAT2 := Lib.hid hat2
          have HBE := Lib.hid hbel
          clear hrg hco hown2 hhas hat2 hbel
          go_wp2_with (first
            | (at_next; refine wpList_next_set _ rfl _ rfl b ri nb _ _ _ rfl HRG.out ?_ ?_))
          · intro hl0
            have hmem : ∀ z, z ∈ ss ↔ z ∈ ys := fun z => by rw [HCO.out.2 z, hl0.out]; simp [HDB.out z]
            have HHN : Hid (∀ z : Int, has D2 (.int .i64 z) = true ↔ z ∈ ddA l t p r (j + 1)) := Lib.hid (fun z => by rw [HHAS2.out z, HDD.out, mem_ddX, hmem])
            clear hmem hl0
            go_wp2_with fail
            exact ⟨⟨j + 1, hlt, by go_num, n2, D2, HO2.out, by omega, HHN.out, HAT2.out, HBE.out, by omega⟩, by simp [RowKit.intOf]; omega⟩
          · intro x vv w2 cnt1 hmore
            obtain ⟨hhx, hstep, hrg1, hlt1, hg1, hsz1, hen⟩ := hmore.out
            have hnx := HNM.out x ((HDB.out x).1 hhx)
            obtain ⟨nb1, nb2⟩ := numB_iff.1 hnx
            have HCO1 := Lib.hid (hstep ss HCO.out)
            have HRG1 := Lib.hid hrg1
            have HBE1 := Lib.hid (HBE.out.grown hg1 (by omega) (fun k e => by cases e; omega))
            have HO3 := Lib.hid (HO2.out.kept hg1 (by simp; omega))
            have hs3 : ri + 1 ≤ w2.heap.size := by omega
            have HKEY := Lib.hid (keyOf_int_mk (P := Try.prog) Try.underlying3 (numB_wf hnx))
            have HLT1 := Lib.hid hlt1
            clear hmore hhx hstep hrg1 hlt1 hg1 hsz1 hnx
            by_cases hin : -l ≤ x ∧ x ≤ l
            · obtain ⟨hin1, hin2⟩ := hin
              have HIN : Hid (inR l x = true) := Lib.hid (by simp [inR, hin1, hin2])
              go_wp2_with (at_mapUpdate; refine wpList_mapUpdate_own _ rfl _ _ _ 69 rfl 3 4 keyedInt Try.underlying69 (plainElem (H := Unit) Try.prog 4) S n2 _ rfl HO3.out (by unfold maxLen; omega) _ _ _ rfl rfl HKEY.out _ [] (plainElem_bool Try.underlying4 true) ?_; intro w5 hown5 hgrow5)
              refine ⟨⟨_, _, _, _, _, _, _, _, _, _, _, _, _, _, _, _, ?rel, rfl⟩, ?measure⟩
              case measure => rw [(HRG1.out.kept hgrow5 (by simp; omega) (by simp; omega)).left_eq, HRG.out.left_eq]; exact HLT1.out
              case rel =>
                refine ⟨_, cnt1, ss ++ [x], n2 + 1, _, HRG1.out.kept hgrow5 (by simp; omega) (by simp; omega), HCO1.out, hown5, by simp; omega, by have := HLT1.out; simp; omega, ?_, HAT2.out.put HO3.out.isMap _, HBE1.out.grown hgrow5 (by omega) (fun k e => by cases e; exact Nat.le_refl _), Nat.le_trans hs3 hgrow5.size⟩
                intro z
                rw [has_put_iff HO3.out.isMap, HHAS2.out z, List.mem_append, List.mem_singleton]
                constructor
                · rintro ((h | h) | rfl)
                  · exact .inl h
                  · exact .inr ⟨.inl h.1, h.2⟩
                  · exact .inr ⟨.inr rfl, HIN.out⟩
                · rintro (h | ⟨h | rfl, h2⟩)
                  · exact .inl (.inl h)
                  · exact .inl (.inr ⟨h, h2⟩)
                  · exact .inr rfl
            · have HIN : Hid (inR l x = false) := Lib.hid (by simp only [inR, decide_eq_false_iff_not]; exact hin)
              have hrel2 : Hid (∀ z : Int, has D2 (.int .i64 z) = true ↔ z ∈ ddA l t p r j ∨ (z ∈ ss ++ [x] ∧ inR l z = true)) := Lib.hid (fun z => by
                rw [HHAS2.out z, List.mem_append, List.mem_singleton]
                constructor
                · rintro (h | h)
                  · exact .inl h
                  · exact .inr ⟨.inl h.1, h.2⟩
                · rintro (h | ⟨h | rfl, h2⟩)
                  · exact .inl h
                  · exact .inr ⟨h, h2⟩
                  · rw [HIN.out] at h2; cases h2)
              by_cases hin1 : -l ≤ x
              · have hin2 : ¬ (x ≤ l) := fun h => hin ⟨hin1, h⟩
                clear hin
                go_wp2_with fail
                go_roundw
                case measure => rw [HRG1.out.left_eq, HRG.out.left_eq]; exact HLT1.out
                case rel => exact ⟨_, cnt1, ss ++ [x], n2, D2, HRG1.out, HCO1.out, HO3.out, by simp; omega, by have := HLT1.out; simp; omega, hrel2.out, HAT2.out, HBE1.out, hs3⟩
              · clear hin
                go_wp2_with fail
                go_roundw
                case measure => rw [HRG1.out.left_eq, HRG.out.left_eq]; exact HLT1.out
                case rel => exact ⟨_, cnt1, ss ++ [x], n2, D2, HRG1.out, HCO1.out, HO3.out, by simp; omega, by have := HLT1.out; simp; omega, hrel2.out, HAT2.out, HBE1.out, hs3⟩
      · have HJ : Hid (j = K + 1) := Lib.hid (by omega)
        have hjj : ¬ ((j : Int) < (K : Int) + 1) := by omega
        have hdl := ddA_len l t p r j
        have HSET : Hid (SetIn wr S (srtI (ddA l t p r j))) := Lib.hid ⟨n, D, hown, by omega, fun x => by rw [hhas x, mem_srt], hat⟩
        have HSL := Lib.hid (srt_lt (ddA_nodup l t p r j))
        have HSN : Hid ((srtI (ddA l t p r j)).length ≤ 1000000) := Lib.hid (by rw [srt_length]; omega)
        have HZZ : Hid (w.heap.size ≤ wr.heap.size) := Lib.hid (by omega)
        clear hown hhas hat hbr hj hlt hn hdl
        go_wp2_with (go_at_call 59; refine (keysB_any _ _).mono ?_; rintro e w2 ⟨rfl, rfl⟩)
        refine (sortedS_any wr.heap.size S _ _ (by simp) (by go_simp) (HSET.out.under ((Below.refl _ wr).alloc (Nat.le_refl _) _) HSET.out.lt) HSL.out HSN.out).mono ?_
        rintro e w3 ⟨v, rfl, hrow, hb3⟩
        have HB3 : Hid (Below w.heap.size w w3) := Lib.hid ((HB.out.trans (HBR.out.mono (Nat.le_of_lt hz))).trans ((((Below.refl _ wr).alloc (Nat.le_refl _) _).trans (hb3.mono (by simp))).mono HZZ.out))
        have HR3 : Hid (IntsAt w3 w.heap.size v (srtI (ddA l t p r j))) := Lib.hid (ownsRow_base hrow (by have := HZZ.out; simp; omega))
        clear hrow hb3
        go_wp2_with fail
        go_ret2
        rw [HBB.out, HX.out, ← HJ.out]
        exact ⟨v, rfl, HR3.out, HB3.out⟩
  · obtain ⟨c0, c1, hz, hb⟩ := map_block hb1
    have HBB : Hid (itB t p r k l = false) := Lib.hid (by rw [itB, lvB, ho]; rfl)
    have HX := Lib.hid (itX_false HBB.out)
    clear hb1 ho HL
    go_wp2_with fail
    go_ret2
    exact retI_none' HX.out HBB.out hb
end Go.Proofs.Ytjcpdlamgjpmmaa
