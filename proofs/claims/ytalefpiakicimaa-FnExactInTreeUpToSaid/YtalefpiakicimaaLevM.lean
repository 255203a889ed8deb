/-
  'FirstLevelOf', 'PathToRoot' of both.
-/
import Derived.Test.YtalefpiakicimaaLevL
import Derived.Test.YtalefpiakicimaaPathOf
import Derived.ScopeJumps
import Derived.WalkMore
import Derived.Outline
namespace Go.Proofs.Ytalefpiakicimaa
open Go.RowKit Go.Maps
set_option linter.unusedVariables false

/-- The first level in which a number is. -/
def flO (t p r k n : Int) : Option Nat := if lvB false t p r k = true then (List.range (k.toNat + 1)).find? (fun j => decide (n ∈ (levL false t p r j).getD [])) else none
theorem flO_some {t p r n : Int} {K j : Nat} (hB : lvB false t p r K = true) (hj : j < K + 1) (hm : n ∈ (levL false t p r j).getD []) (hno : ∀ m, m < j → n ∉ (levL false t p r m).getD []) : flO t p r K n = some j := by
  rw [flO, if_pos hB, Int.toNat_natCast, List.find?_range_eq_some]
  exact ⟨decide_eq_true hm, List.mem_range.2 hj, fun m hmj => by simpa using hno m hmj⟩
theorem flO_none {t p r n : Int} {K : Nat} (hno : ∀ m, m < K + 1 → n ∉ (levL false t p r m).getD []) : flO t p r K n = none := by
  unfold flO
  split
  · rw [Int.toNat_natCast, List.find?_range_eq_none]
    intro m hm
    simpa using hno m hm
  · rfl
theorem flO_bad {t p r k n : Int} (hB : lvB false t p r k = false) : flO t p r k n = none := by rw [flO, if_neg (by simp [hB])]
theorem lev_num {t p r n : Int} {K m : Nat} (hg : goodB t p = true) (hr : numB r = true) (h : n ∈ (levL false t p r m).getD []) : numB n = true := by
  cases hl : levL false t p r m with
  | none => rw [hl] at h; simp at h
  | some xs => rw [hl] at h; exact levL_num hg hr hl h
theorem flO_notnum {t p r k n : Int} (h : numB n = false) : flO t p r k n = none := by
  cases hB : lvB false t p r k
  · exact flO_bad hB
  · cases ho : lvO false t p r k with
    | none => rw [lvB, ho] at hB; cases hB
    | some xs =>
      obtain ⟨_, hg, hr, K, rfl, _, _⟩ := lvO_some ho
      exact flO_none fun m _ hm => by have := lev_num (K := K) hg hr hm; rw [h] at this; cases this
theorem ret_ib' {a a' : Int} {b b' : Bool} (h : a = a') (h' : b = b') : Ending.returned (.tuple #[.int .i64 a, .bool b]) = .returned (.tuple #[.int .i64 a', .bool b']) := by rw [h, h']

set_option maxRecDepth 100000 in
set_option maxHeartbeats 4000000 in
theorem trFirst_any (t p r k n : Int) (w : World) :
    Calls Try.prog 64 #[.agg #[.int .i64 t, .int .i64 p], .int .i64 r, .int .i64 k, .int .i64 n] w fun e w' => e = .returned (.tuple #[.int .i64 (((flO t p r k n).getD 0 : Nat) : Int), .bool (flO t p r k n).isSome]) ∧ Below w.heap.size w w' := by
  have HA := Lib.hid (fun w => trAsked_any t p r k w)
  have HI := Lib.hid (fun w => mpIs_any n w)
  cases ha : askT t p r k
  · have HX : Hid (flO t p r k n = none) := Lib.hid (flO_bad (by rw [lvB, lvO_no ha]; rfl))
    rw [ha] at HA
    clear ha
    go_enter Try.func64, Try.ntmps64
    go_wp2_with fail
    refine (HA.out _).mono ?_
    rintro e w1 ⟨rfl, hb1⟩
    obtain ⟨c0, c1, hz, hb⟩ := map_block hb1
    clear hb1
    go_wp2_with fail
    go_ret2
    exact ⟨by rw [HX.out]; rfl, hb⟩
  · rw [ha] at HA
    cases hn : numB n
    · have HX : Hid (flO t p r k n = none) := Lib.hid (flO_notnum hn)
      rw [hn] at HI
      clear hn ha
      go_enter Try.func64, Try.ntmps64
      go_wp2_with fail
      refine (HA.out _).mono ?_
      rintro e w1 ⟨rfl, hb1⟩
      obtain ⟨c0, c1, hz, hb⟩ := map_block hb1
      clear hb1
      go_wp2_with (go_at_call 44; refine (HI.out _).mono ?_; rintro e w' ⟨rfl, rfl⟩)
      go_ret2
      exact ⟨by rw [HX.out]; rfl, hb⟩
    · obtain ⟨hg, hr, _, K, rfl, hK⟩ := askT_parts ha
      have HL := Lib.hid (fun w => trLevels_any false t p r K w hg hr hK)
      have HO := Lib.hid (lvO_yes (short := false) ha)
      have hK2 : (K : Int) ≤ 20 := by omega
      rw [hn] at HI
      clear ha hg hr hn
      go_enter Try.func64, Try.ntmps64
      go_wp2_with fail
      refine (HA.out _).mono ?_
      rintro e w1 ⟨rfl, hb1⟩
      obtain ⟨c0, c1, hz, hb⟩ := map_block hb1
      have HB1 := Lib.hid hb
      clear hb1 hb
      go_wp2_with (go_at_call 44; refine (HI.out _).mono ?_; rintro e w' ⟨rfl, rfl⟩)
      refine (HL.out _).mono ?_
      rintro e w2 ⟨hb2, (⟨xs, v, hxs, rfl, hlev⟩ | ⟨hxs, rfl⟩)⟩
      · have HBB : Hid (lvB false t p r K = true) := Lib.hid (by rw [lvB, HO.out, hxs]; rfl)
        have HFS := Lib.hid (fun j hj hm hno => flO_some (n := n) (j := j) HBB.out hj hm hno)
        have HFN := Lib.hid (fun hno => flO_none (t := t) (p := p) (r := r) (n := n) (K := K) hno)
        have HXS := Lib.hid hxs
        have HLEV := Lib.hid hlev
        have HB2 := Lib.hid (HB1.out.trans (hb2.mono (Nat.le_of_lt hz)))
        obtain ⟨vs, hrow, hbl, hbs⟩ := hlev
        rw [lvA_length] at hrow
        obtain ⟨g, cap, rfl, hgB, hgl, hcap, hcm, _⟩ := row_cells hrow (by omega)
        have hcap2 : (K : Int) + 1 ≤ (cap : Int) := by omega
        have hcm2 : (cap : Int) ≤ 9223372036854775807 := by unfold maxLen at hcm; omega
        clear hb2 hxs hrow hbl hbs hcm c0 c1 HL
        go_wp2_with fail
        go_loop [35] (fun i => ∃ j : Nat, j ≤ K + 1 ∧ i = .int .i64 j ∧ ∀ m, m < j → n ∉ (levL false t p r m).getD []) (fun i => K + 1 - (RowKit.intOf i).toNat)
        case atStart => exact ⟨0, by omega, rfl, by simp⟩
        case round =>
          obtain ⟨j, hj, rfl, hno⟩ := hrel
          have HNO := Lib.hid hno
          clear hno
          by_cases hlt : j < K + 1
          · have hjK : (j : Int) < (K : Int) + 1 := by omega
            obtain ⟨ys, hys⟩ := levL_lower (j := j) (by omega) HXS.out
            obtain ⟨g2, cap2, u, hv, _, hg2, _, _, q, hui⟩ := HLEV.out.at (k := j) (by rw [lvA_length]; exact hlt)
            obtain rfl : g = g2 := by injection hv with h1; injection h1 with h2; injection h2
            rw [lvA_at _ _ _ _ (by omega), hys, Option.getD_some] at hui
            have hyl := levL_len hys
            have HH := Lib.hid (l1Has_at n hui (by omega))
            have HYS : Hid ((levL false t p r j).getD [] = ys) := Lib.hid (by rw [hys]; rfl)
            obtain ⟨ua, uc, rfl⟩ := hui.form
            clear hys hv hui hyl
            by_cases hm : n ∈ ys
            · have HF := Lib.hid (HFS.out j hlt (by rw [HYS.out]; exact hm) HNO.out)
              rw [decide_eq_true hm] at HH
              clear hm
              go_wp2_with (go_at_call 52; refine HH.out.mono ?_; rintro e w' ⟨rfl, rfl⟩)
              go_ret2
              exact ⟨by rw [HF.out]; rfl, HB2.out⟩
            · have HNO2 : Hid (∀ m, m < j + 1 → n ∉ (levL false t p r m).getD []) := Lib.hid (fun m hmj => by
                by_cases e : m = j
                · subst e; rw [HYS.out]; exact hm
                · exact HNO.out m (by omega))
              rw [decide_eq_false hm] at HH
              clear hm
              go_wp2_with (go_at_call 52; refine HH.out.mono ?_; rintro e w' ⟨rfl, rfl⟩)
              exact ⟨⟨j + 1, hlt, by go_num, HNO2.out⟩, by simp [RowKit.intOf]; omega⟩
          · have HF : Hid (flO t p r K n = none) := Lib.hid (HFN.out (fun m hm => HNO.out m (by omega)))
            have hjj : ¬ ((j : Int) < (K : Int) + 1) := by omega
            clear hj hlt
            go_wp2_with fail
            go_ret2
            exact ⟨by rw [HF.out]; rfl, HB2.out⟩
      · have HX : Hid (flO t p r K n = none) := Lib.hid (flO_bad (by rw [lvB, HO.out, hxs]; rfl))
        have HB2 := Lib.hid (HB1.out.trans (hb2.mono (Nat.le_of_lt hz)))
        clear hxs hb2 c0 c1
        go_wp2_with fail
        go_ret2
        exact ⟨by rw [HX.out]; rfl, HB2.out⟩
theorem sFirstLevelOf (t p r k n : Int) (w : World) :
    Calls Try.prog 39 #[.agg #[.int .i64 t, .int .i64 p], .int .i64 r, .int .i64 k, .int .i64 n] w fun e w' => e = .returned (.tuple #[.int .i64 (((flO t p r k n).getD 0 : Nat) : Int), .bool (flO t p r k n).isSome]) ∧ Below w.heap.size w w' := by
  have HL := Lib.hid (fun w => trFirst_any t p r k n w)
  go_enter Try.func39, Try.ntmps39
  go_wp2_with fail
  refine (HL.out _).mono ?_
  rintro e w1 ⟨rfl, hb1⟩
  obtain ⟨c0, c1, hz, hb⟩ := map_block hb1
  clear hb1 HL
  go_wp2_with fail
  go_ret2
  exact ⟨rfl, hb⟩

/-- What holds at the jump. -/
def FirstJ (t p r k n : Int) (w : World) (a : Act) (W : World) : Prop :=
  ∃ (j : Nat) (u0 u1 u2 u3 u4 u5 u6 u7 u8 u9 u10 u11 u13 u14 u15 u16 u17 u18 u19 u20 u21 u22 u23 u24 u25 u26 u27 u28 u29 u30 u31 u32 u33 u34 : Value), a = { tmps := #[u0, u1, u2, u3, u4, u5, u6, u7, u8, u9, u10, u11, .int .i64 (j : Int), u13, u14, u15, u16, u17, u18, u19, u20, u21, u22, u23, u24, u25, u26, u27, u28, u29, u30, u31, u32, u33, u34], defers := [] } ∧ flO t p r k n = some j ∧ Below w.heap.size w W
set_option maxRecDepth 100000 in
set_option maxHeartbeats 4000000 in
theorem iFirstLevelOf (t p r k n : Int) (hn : (Lit.int .i64 n).wf = true) (w : World) :
    Calls Try.prog 40 #[.agg #[.int .i64 t, .int .i64 p], .int .i64 r, .int .i64 k, .int .i64 n] w fun e w' => e = .returned (.tuple #[.int .i64 (((flO t p r k n).getD 0 : Nat) : Int), .bool (flO t p r k n).isSome]) ∧ Below w.heap.size w w' := by
  have HL := Lib.hid (fun w => levelsOf_any false t p r k w)
  rw [show bfF false = 48 from rfl] at HL
  have HWF := Lib.hid hn
  clear hn
  go_enter Try.func40, Try.ntmps40
  go_wp2
  refine wp_scope_jumps 0 (FirstJ t p r k n w) (fun _ _ => 0) rfl ?_ ?_
  · go_wp2_with fail
    refine (HL.out _).mono ?_
    rintro e w1 ⟨hb1, (⟨K, xs, v, rfl, ho, hxs, rfl, hlev⟩ | ⟨ho, rfl⟩)⟩
    · obtain ⟨c0, c1, hz, hb⟩ := map_block hb1
      have HB := Lib.hid hb
      have HBB : Hid (lvB false t p r K = true) := Lib.hid (by rw [lvB, ho]; rfl)
      have HFS := Lib.hid (fun j hj hm hno => flO_some (n := n) (j := j) HBB.out hj hm hno)
      have HFN := Lib.hid (fun hno => flO_none (t := t) (p := p) (r := r) (n := n) (K := K) hno)
      have HXS := Lib.hid hxs
      have HLEV := Lib.hid hlev
      obtain ⟨bs, hrow, hbl, hbs⟩ := hlev
      rw [lvA_length] at hrow
      obtain ⟨g, cap, rfl, hgB, hgl, hcap, hcm, _⟩ := row_cells hrow (by omega)
      have hcap2 : (K : Int) + 1 ≤ (cap : Int) := by omega
      have hcm2 : (cap : Int) ≤ 9223372036854775807 := by unfold maxLen at hcm; omega
      have hK2 : (K : Int) ≤ 20 := by obtain ⟨_, _, _, K', hKK, hK20, _⟩ := lvO_some ho; omega
      clear hb1 hb ho hxs hrow hbl hbs hcm c0 c1 HL
      go_wp2_with fail
      go_loop [24] (fun i => ∃ j : Nat, j ≤ K + 1 ∧ i = .int .i64 j ∧ ∀ m, m < j → n ∉ (levL false t p r m).getD []) (fun i => K + 1 - (RowKit.intOf i).toNat)
      case atStart => exact ⟨0, by omega, rfl, by simp⟩
      case round =>
        obtain ⟨j, hj, rfl, hno⟩ := hrel
        have HNO := Lib.hid hno
        clear hno
        by_cases hlt : j < K + 1
        · have hjK : (j : Int) < (K : Int) + 1 := by omega
          obtain ⟨ys, hys⟩ := levL_lower (j := j) (by omega) HXS.out
          obtain ⟨g2, cap2, b, hv, _, hg2, _, _, q, hset⟩ := HLEV.out.at (k := j) (by rw [lvA_length]; exact hlt)
          obtain rfl : g = g2 := by injection hv with h1; injection h1 with h2; injection h2
          rw [lvA_at _ _ _ _ (by omega), hys, Option.getD_some] at hset
          have hlk := hset.look HWF.out
          have HYS : Hid ((levL false t p r j).getD [] = ys) := Lib.hid (by rw [hys]; rfl)
          clear hys hv hset
          by_cases hm : n ∈ ys
          · have HF := Lib.hid (HFS.out j hlt (by rw [HYS.out]; exact hm) HNO.out)
            rw [decide_eq_true hm] at hlk
            clear hm
            go_wp2_with fail
            go_step3
            exact ⟨rfl, j, _, _, _, _, _, _, _, _, _, _, _, _, _, _, _, _, _, _, _, _, _, _, _, _, _, _, _, _, _, _, _, _, _, _, rfl, HF.out, HB.out⟩
          · have HNO2 : Hid (∀ m, m < j + 1 → n ∉ (levL false t p r m).getD []) := Lib.hid (fun m hmj => by
              by_cases e : m = j
              · subst e; rw [HYS.out]; exact hm
              · exact HNO.out m (by omega))
            rw [decide_eq_false hm] at hlk
            clear hm
            go_wp2_with fail
            exact ⟨⟨j + 1, hlt, by go_num, HNO2.out⟩, by simp [RowKit.intOf]; omega⟩
        · have HF : Hid (flO t p r K n = none) := Lib.hid (HFN.out (fun m hm => HNO.out m (by omega)))
          have hjj : ¬ ((j : Int) < (K : Int) + 1) := by omega
          clear hj hlt
          go_wp2_with fail
          try simp only [Exit.jump]
          go_ret2
          exact ⟨by rw [HF.out]; rfl, HB.out⟩
    · obtain ⟨c0, c1, hz, hb⟩ := map_block hb1
      have HX : Hid (flO t p r k n = none) := Lib.hid (flO_bad (by rw [lvB, ho]; rfl))
      have HB := Lib.hid hb
      clear hb1 hb ho HL c0 c1
      go_wp2_with fail
      try simp only [Exit.jump]
      go_ret2
      exact ⟨by rw [HX.out]; rfl, HB.out⟩
  · rintro a W ⟨j, u0, u1, u2, u3, u4, u5, u6, u7, u8, u9, u10, u11, u13, u14, u15, u16, u17, u18, u19, u20, u21, u22, u23, u24, u25, u26, u27, u28, u29, u30, u31, u32, u33, u34, rfl, hfo, hb⟩
    have HF := Lib.hid hfo
    have HB := Lib.hid hb
    clear hfo hb HL
    go_wp2_with fail
    try simp only [Exit.jump]
    go_ret2
    exact ⟨by rw [HF.out]; rfl, HB.out⟩

/-- The path to the root. -/
def ptX (t p r k n : Int) : List Int := match flO t p r k n with
  | some j => pathL (nx t p) n j
  | none => []
theorem flO_path {t p r k n : Int} {j : Nat} (h : flO t p r k n = some j) : goodB t p = true ∧ numB n = true ∧ j ≤ 20 ∧ allB (nx t p) n (j + 1) = true := by
  cases hB : lvB false t p r k
  · rw [flO_bad hB] at h; cases h
  · cases ho : lvO false t p r k with
    | none => rw [lvB, ho] at hB; cases hB
    | some xs =>
      obtain ⟨_, hg, hr, K, rfl, hK, hl⟩ := lvO_some ho
      rw [flO, if_pos hB, Int.toNat_natCast, List.find?_range_eq_some] at h
      obtain ⟨h1, h2, _⟩ := h
      have hj := List.mem_range.1 h2
      have hm := of_decide_eq_true h1
      obtain ⟨ys, hys⟩ := levL_lower (j := j) (by omega) hl
      rw [hys] at hm
      have := (levL_mem hg hr j ys hys n).1 hm
      exact ⟨hg, levL_num hg hr hys hm, by omega, this.2⟩
theorem ptX_len (t p r k n : Int) : (ptX t p r k n).length ≤ 1000000000000 := by
  unfold ptX
  split
  · rename_i j h
    have := (flO_path h).2.2.1
    rw [pathL_length]; omega
  · simp
set_option maxHeartbeats 2000000 in
theorem sPathToRoot (t p r k n : Int) (w : World) :
    Calls Try.prog 41 #[.agg #[.int .i64 t, .int .i64 p], .int .i64 r, .int .i64 k, .int .i64 n] w (RetInts (ptX t p r k n) (flO t p r k n).isSome w) := by
  have HL := Lib.hid (fun w => trFirst_any t p r k n w)
  cases ho : flO t p r k n with
  | none =>
    have HX : Hid (ptX t p r k n = []) := Lib.hid (by rw [ptX, ho])
    rw [ho] at HL
    clear ho
    go_enter Try.func41, Try.ntmps41
    go_wp2_with fail
    refine (HL.out _).mono ?_
    rintro e w1 ⟨rfl, hb1⟩
    obtain ⟨c0, c1, hz, hb⟩ := map_block hb1
    clear hb1 HL
    go_wp2_with fail
    go_ret2
    exact retI_none' HX.out rfl hb
  | some j =>
    obtain ⟨hg, hn, hj, hall⟩ := flO_path ho
    have HX : Hid (ptX t p r k n = pathL (nx t p) n j) := Lib.hid (by rw [ptX, ho])
    have HP := Lib.hid (fun w => mpPath_any t p n j w hg hn (by omega))
    rw [hall, show pathOr (nx t p) n j = pathL (nx t p) n j by rw [pathOr, if_pos hall]] at HP
    rw [ho] at HL
    clear ho hg hn hall
    go_enter Try.func41, Try.ntmps41
    go_wp2_with fail
    refine (HL.out _).mono ?_
    rintro e w1 ⟨rfl, hb1⟩
    obtain ⟨c0, c1, hz, hb⟩ := map_block hb1
    have HB := Lib.hid hb
    clear hb1 HL hb
    go_wp2_with fail
    refine (HP.out _).mono ?_
    rintro e w2 ⟨v, rfl, hrow, hb2, _⟩
    have HR : Hid (IntsAt w2 w.heap.size v (pathL (nx t p) n j)) := Lib.hid (ownsRow_base hrow (Nat.le_of_lt hz))
    have HB2 := Lib.hid (HB.out.trans (hb2.mono (Nat.le_of_lt hz)))
    clear hrow hb2 c0 c1
    go_wp2_with fail
    go_ret2
    rw [HX.out]
    exact ⟨v, rfl, HR.out, HB2.out⟩
set_option maxHeartbeats 2000000 in
theorem iPathToRoot (t p r k n : Int) (hn : (Lit.int .i64 n).wf = true) (w : World) :
    Calls Try.prog 42 #[.agg #[.int .i64 t, .int .i64 p], .int .i64 r, .int .i64 k, .int .i64 n] w (RetInts (ptX t p r k n) (flO t p r k n).isSome w) := by
  have HL := Lib.hid (fun w => iFirstLevelOf t p r k n hn w)
  cases ho : flO t p r k n with
  | none =>
    have HX : Hid (ptX t p r k n = []) := Lib.hid (by rw [ptX, ho])
    rw [ho] at HL
    clear ho hn
    go_enter Try.func42, Try.ntmps42
    go_wp2_with fail
    refine (HL.out _).mono ?_
    rintro e w1 ⟨rfl, hb1⟩
    obtain ⟨c0, c1, hz, hb⟩ := map_block hb1
    clear hb1 HL
    go_wp2_with fail
    go_ret2
    exact retI_none' HX.out rfl hb
  | some j =>
    obtain ⟨hg, hnn, hj, hall⟩ := flO_path ho
    have HX : Hid (ptX t p r k n = pathL (nx t p) n j) := Lib.hid (by rw [ptX, ho])
    have hask : askB t p n j = true := askB_iff.2 ⟨hg, hnn, by omega, by omega⟩
    have hB : pofB t p n j = true := by rw [pofB, aft_two, hask, Int.toNat_natCast, hall]; simp; omega
    have hX : pofL t p n j = pathL (nx t p) n j := by rw [pofL, if_pos hB, Int.toNat_natCast]
    have HP := Lib.hid (fun w => iPathOf t p n j w)
    rw [hB, hX] at HP
    rw [ho] at HL
    clear ho hg hnn hall hask hB hX hn
    go_enter Try.func42, Try.ntmps42
    go_wp2_with fail
    refine (HL.out _).mono ?_
    rintro e w1 ⟨rfl, hb1⟩
    obtain ⟨c0, c1, hz, hb⟩ := map_block hb1
    have HB := Lib.hid hb
    clear hb1 HL hb
    go_wp2_with fail
    refine (HP.out _).mono ?_
    rintro e w2 ⟨v, rfl, hrow, hb2, _⟩
    have HR : Hid (IntsAt w2 w.heap.size v (pathL (nx t p) n j)) := Lib.hid (ownsRow_base hrow (Nat.le_of_lt hz))
    have HB2 := Lib.hid (HB.out.trans (hb2.mono (Nat.le_of_lt hz)))
    clear hrow hb2 c0 c1
    go_wp2_with fail
    go_ret2
    rw [HX.out]
    exact ⟨v, rfl, HR.out, HB2.out⟩
end Go.Proofs.Ytalefpiakicimaa
