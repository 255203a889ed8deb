/-
  'before' of the program, 'omBefore' of the model.
-/
import Derived.Test.YtbhmplccjaijjaaBfM
import Derived.Test.YtbhmplccjaijjaaOs
import Derived.Test.YtbhmplccjaijjaaSortT
import Derived.RegionTactic
namespace Go.Proofs.Ytbhmplccjaijjaa
open Go.RowKit
set_option linter.unusedVariables false

theorem new_cell_o (w : World) (x : Value) (T : TypeId) {s : Nat} (hs : w.heap.size = s) {j : Nat} {u : Value} (h : [x][j]? = some u) : (w.alloc (.cells #[x] T)).cell? ((⟨s, 0, none⟩ : Addr).add j) = some u := by
  subst hs
  exact new_cell w x T h

set_option maxRecDepth 100000 in
set_option maxHeartbeats 8000000 in
theorem beforeO_any (ps : List Pt) (n : Int) (v : Value) (w : World) (hg : omB ps = true) (hn : numB n = true) (h : OthIn w v ps) :
    Calls Try.prog 70 #[v, .int .i64 n] w fun e w' => ∃ v', e = .returned v' ∧ IntsAt w' w.heap.size v' (bfO ps n) ∧ Below w.heap.size w w' := by
  obtain ⟨a, c, rfl, hx⟩ := h.rd
  have hl8 := omB_len hg
  have HX := Lib.hid hx
  have HOK := Lib.hid (fun j (hj : j < ps.length) => (ptOk_iff.1 (omB_at hg hj)).1)
  have HYES := Lib.hid (fun j x => bfT_yes (ps := ps) (n := n) (j := j) (x := x))
  have HNO := Lib.hid (fun j => bfT_no (ps := ps) (n := n) (j := j))
  have HALL := Lib.hid (bfT_all ps n)
  have HLEN := Lib.hid (fun j => bfT_len ps n j)
  have HN := Lib.hid hn
  obtain ⟨K, hK⟩ : ∃ K, ps.length = K := ⟨_, rfl⟩
  rw [hK] at HX HOK HALL HYES HNO hl8 ⊢
  obtain ⟨hK1, hK2⟩ := hl8
  obtain ⟨i0, hi, hi0, hi1, hi2⟩ := info_parts info3
  have HZ : Hid (∀ W, IntsAt W (w.heap.size + 1) (.slice none 0 0) (bfT ps n 0)) := Lib.hid (fun W => intsAt_nil _ _)
  have HB := Lib.hid (below_new w (.cells #[.slice a K c] 29))
  have HBo := Lib.hid (Bo.new w (.slice a K c) 29)
  clear hg hn h hx hK
  go_enter Try.func70, Try.ntmps70
  go_wp2_with fail
  go_loopw [5, 6, 7, 8, 9, 13] (fun out _ _ _ _ i wr => ∃ j : Nat, j ≤ K ∧ i = .int .i64 j ∧ IntsAt wr (w.heap.size + 1) out (bfT ps n j) ∧ Bo wr w.heap.size (.slice a K c) ∧ Below w.heap.size w wr) (fun _ _ _ _ _ i _ => K - (RowKit.intOf i).toNat)
  case atStart => exact ⟨0, by omega, rfl, HZ.out _, HBo.out, HB.out⟩
  case round =>
    clear HBo HB HZ
    obtain ⟨j, hj, rfl, hrow, hbo, hbel⟩ := hrel
    have HO := Lib.hid hrow
    have HBR := Lib.hid hbel
    have HBO := Lib.hid hbo
    have hsz := hbel.size
    have hlen := HLEN.out j
    by_cases hlt : j < K
    · obtain ⟨g, rfl, hgl, q⟩ := HX.out j hlt
      have q2 := q.of (hbel.block g hgl)
      have hin := ptIn_iff.1 (HOK.out j hlt)
      have hbig := bf_size (HOK.out j hlt) HN.out
      have HY := Lib.hid (HYES.out j)
      have HNJ := Lib.hid (HNO.out j)
      have HC1 := Lib.hid (bfAt_odd (q := ps.getD j pt0) (r := j) (m := K) (n := n))
      have HC2 := Lib.hid (bfAt_yes (q := ps.getD j pt0) (r := j) (m := K) (n := n))
      have HC3 := Lib.hid (bfAt_else (q := ps.getD j pt0) (r := j) (m := K) (n := n))
      obtain ⟨p0, p1⟩ := hbo
      clear q hrow hbel
      obtain ⟨pt, hpt⟩ : ∃ pt, ps.getD j pt0 = pt := ⟨_, rfl⟩
      rw [hpt] at q2 hin hbig HY HNJ HC1 HC2 HC3
      obtain ⟨t, p, o⟩ := pt
      obtain ⟨k0, k1, k2⟩ := q2
      dsimp only at k0 k1 k2 hin hbig HC1 HC2 HC3
      obtain ⟨i1, i2, i3, i4, i5, i6⟩ := hin

      obtain ⟨y, hy⟩ : ∃ y, o * n = y := ⟨_, rfl⟩
      rw [hy] at hbig HC1 HC2 HC3
      obtain ⟨b1, b2⟩ := hbig
      have ht0 : (t == 0) = false := by simp; omega
      have hlt2 : (j : Int) < (K : Int) := by omega
      have hj0 : (0 : Int) ≤ (j : Int) := by omega
      have hne : ¬ (w.heap.size = wr.heap.size) := by omega
      have hne2 : ¬ (wr.heap.size = w.heap.size) := by omega
      have hge : ¬ (g = wr.heap.size) := by omega
      have HBn := Lib.hid (HBO.out.grow (.cells #[.int .i64 t, .int .i64 p, .int .i64 o] 65))
      have HRn := Lib.hid (HBR.out.trans ((below_new wr (.cells #[.int .i64 t, .int .i64 p, .int .i64 o] 65)).mono hsz))
      have HOn := Lib.hid (ownsRow_kept HO.out (below_new wr (.cells #[.int .i64 t, .int .i64 p, .int .i64 o] 65)))
      clear hpt
      obtain ⟨x1, x2⟩ := tdiv_sizeO (g := t) b1 b2
      by_cases e1 : (y - p).tmod t = 0
      · have HRM := Lib.hid (fun w => remainderOf_any ((y - p).tdiv t) K w (by omega) (by omega))
        by_cases e2 : (y - p).tdiv t % (K : Int) = (j : Int)
        · have HT2 := Lib.hid (HY.out _ (HC2.out e1 e2))
          rw [e2] at HRM
          clear HC1 HC2 HC3 HY HNJ e2
          obtain ⟨l, hl⟩ : ∃ l, l = bfT ps n j := ⟨_, rfl⟩
          rw [← hl] at HO HOn HT2 hlen
          clear hl
          obtain ⟨X, hX⟩ : ∃ X, (y - p).tdiv t = X := ⟨_, rfl⟩
          rw [hX] at HRM HT2 x1 x2
          have hj3 : l.length + 1 ≤ maxLen := by unfold maxLen; omega
          have hll : l.length ≤ 8 := by omega
          go_wp2_with fail
          refine (HRM.out _).mono ?_
          rintro e w4 ⟨rfl, rfl⟩
          have HO2 := Lib.hid (HO.out.alloc (.cells #[.int .i64 t, .int .i64 p, .int .i64 o] 65))
          go_wp2_with (at_builtin; refine wpList_append_own _ rfl _ _ 38 rfl (w.heap.size + 1) 3 i0 (.int .i64 0) 1 8 Try.underlying38 hi hi0 hi1 hi2 rfl (by decide) _ _ _ rfl (HO2.out.alloc _) ⟨wr.heap.size + 1, 0, none⟩ 1 1 [.int .i64 X] rfl rfl ?_ ?_ ?_ ?_ ?_ ?_; rotate_right; intro v' w3 hown hgrow _)
          · have hgr : ((wr.alloc (.cells #[.int .i64 t, .int .i64 p, .int .i64 o] 65)).alloc (.cells #[.int .i64 X] 3)).grownBy w3 u5.ownBlock := hgrow
            have hbg : Below (w.heap.size + 1) wr w3 := (((Below.refl (w.heap.size + 1) wr).alloc p1 _).alloc (by simp; omega) _).grown hgr (by simp; omega) (fun k e => (HO2.out.lt k e).1)
            refine ⟨⟨j + 1, hlt, by go_num, ?_, HBO.out.of hbg.size (hbg.block _ (by omega)), HBR.out.trans (hbg.mono (by omega))⟩, by simp [RowKit.intOf]; omega⟩
            unfold IntsAt
            rw [HT2.out, List.map_append, List.length_append]
            exact hown
          · exact fun j u hu => new_cell_o _ _ _ (by simp) hu
          · simp [Value.oneCell']
          · exact hj3
          · omega
          · simp; omega
        · have HT2 := Lib.hid (HNJ.out (HC3.out e2))
          clear HC1 HC2 HC3 HY HNJ
          obtain ⟨R, hR⟩ : ∃ R, (y - p).tdiv t % (K : Int) = R := ⟨_, rfl⟩
          rw [hR] at HRM e2
          clear hR
          obtain ⟨X, hX⟩ : ∃ X, (y - p).tdiv t = X := ⟨_, rfl⟩
          rw [hX] at HRM x1 x2
          go_wp2_with fail
          refine (HRM.out _).mono ?_
          rintro e w4 ⟨rfl, rfl⟩
          go_wp2_with fail
          exact ⟨⟨j + 1, hlt, by go_num, by rw [HT2.out]; exact HOn.out, HBn.out, HRn.out⟩, by simp [RowKit.intOf]; omega⟩
      · have HT2 := Lib.hid (HNJ.out (HC1.out e1))
        clear HC1 HC2 HC3 HY HNJ
        obtain ⟨X, hX⟩ : ∃ X, (y - p).tdiv t = X := ⟨_, rfl⟩
        rw [hX] at x1 x2
        go_wp2_with fail
        exact ⟨⟨j + 1, hlt, by go_num, by rw [HT2.out]; exact HOn.out, HBn.out, HRn.out⟩, by simp [RowKit.intOf]; omega⟩
    · obtain rfl : j = K := by omega
      have hlt2 : ¬ ((j : Int) < (j : Int)) := by omega
      clear hrow hbo hbel
      go_wp2_with fail
      go_ret
      have h := HO.out
      rw [HALL.out] at h
      exact ⟨_, rfl, ownsRow_base h (by omega), HBR.out⟩

set_option maxRecDepth 100000 in
set_option maxHeartbeats 8000000 in
theorem omBefore_any (ps : List Pt) (n : Int) (v : Value) (w : World) (hg : omB ps = true) (hn : numB n = true) (h : OthIn w v ps) :
    Calls Try.prog 67 #[v, .int .i64 n] w fun e w' => ∃ v', e = .returned v' ∧ IntsAt w' w.heap.size v' (srtI (bfO ps n)) ∧ Below w.heap.size w w' := by
  obtain ⟨a, c, rfl, hx⟩ := h.rd
  have hl8 := omB_len hg
  have HX := Lib.hid hx
  have HOK := Lib.hid (fun j (hj : j < ps.length) => (ptOk_iff.1 (omB_at hg hj)).1)
  have HYES := Lib.hid (fun j x => bfT_yes (ps := ps) (n := n) (j := j) (x := x))
  have HNO := Lib.hid (fun j => bfT_no (ps := ps) (n := n) (j := j))
  have HALL := Lib.hid (bfT_all ps n)
  have HLEN := Lib.hid (fun j => bfT_len ps n j)
  have HN := Lib.hid hn
  obtain ⟨K, hK⟩ : ∃ K, ps.length = K := ⟨_, rfl⟩
  rw [hK] at HX HOK HALL HYES HNO hl8 ⊢
  obtain ⟨hK1, hK2⟩ := hl8
  obtain ⟨i0, hi, hi0, hi1, hi2⟩ := info_parts info3
  have HZ : Hid (∀ W, IntsAt W (w.heap.size + 1) (.slice none 0 0) (bfT ps n 0)) := Lib.hid (fun W => intsAt_nil _ _)
  have HB := Lib.hid (below_new w (.cells #[.slice a K c] 29))
  have HBo := Lib.hid (Bo.new w (.slice a K c) 29)
  clear hg hn h hx hK
  go_enter Try.func67, Try.ntmps67
  go_wp2_with fail
  go_loopw [5, 6, 7, 8, 12] (fun out _ _ _ i wr => ∃ j : Nat, j ≤ K ∧ i = .int .i64 j ∧ IntsAt wr (w.heap.size + 1) out (bfT ps n j) ∧ Bo wr w.heap.size (.slice a K c) ∧ Below w.heap.size w wr) (fun _ _ _ _ i _ => K - (RowKit.intOf i).toNat)
  case atStart => exact ⟨0, by omega, rfl, HZ.out _, HBo.out, HB.out⟩
  case round =>
    clear HBo HB HZ
    obtain ⟨j, hj, rfl, hrow, hbo, hbel⟩ := hrel
    have HO := Lib.hid hrow
    have HBR := Lib.hid hbel
    have HBO := Lib.hid hbo
    have hsz := hbel.size
    have hlen := HLEN.out j
    by_cases hlt : j < K
    · obtain ⟨g, rfl, hgl, q⟩ := HX.out j hlt
      have q2 := q.of (hbel.block g hgl)
      have hin := ptIn_iff.1 (HOK.out j hlt)
      have hbig := bf_size (HOK.out j hlt) HN.out
      have HY := Lib.hid (HYES.out j)
      have HNJ := Lib.hid (HNO.out j)
      have HC1 := Lib.hid (bfAt_odd (q := ps.getD j pt0) (r := j) (m := K) (n := n))
      have HC2 := Lib.hid (bfAt_yes (q := ps.getD j pt0) (r := j) (m := K) (n := n))
      have HC3 := Lib.hid (bfAt_else (q := ps.getD j pt0) (r := j) (m := K) (n := n))
      obtain ⟨p0, p1⟩ := hbo
      clear q hrow hbel
      obtain ⟨pt, hpt⟩ : ∃ pt, ps.getD j pt0 = pt := ⟨_, rfl⟩
      rw [hpt] at q2 hin hbig HY HNJ HC1 HC2 HC3
      obtain ⟨t, p, o⟩ := pt
      obtain ⟨k0, k1, k2⟩ := q2
      dsimp only at k0 k1 k2 hin hbig HC1 HC2 HC3
      obtain ⟨i1, i2, i3, i4, i5, i6⟩ := hin
      rw [Int.mul_comm o n] at hbig HC1 HC2 HC3
      obtain ⟨y, hy⟩ : ∃ y, n * o = y := ⟨_, rfl⟩
      rw [hy] at hbig HC1 HC2 HC3
      obtain ⟨b1, b2⟩ := hbig

      obtain ⟨z1, z2⟩ := tdiv_mul_size (b := t) b1 b2
      have hwm := whole_mul (y - p) t p y rfl
      have ht0 : (t == 0) = false := by simp; omega
      have hlt2 : (j : Int) < (K : Int) := by omega
      have hj0 : (0 : Int) ≤ (j : Int) := by omega
      have hne : ¬ (w.heap.size = wr.heap.size) := by omega
      have hne2 : ¬ (wr.heap.size = w.heap.size) := by omega
      have hge : ¬ (g = wr.heap.size) := by omega
      have HBn := Lib.hid (HBO.out.grow (.cells #[.int .i64 t, .int .i64 p, .int .i64 o] 65))
      have HRn := Lib.hid (HBR.out.trans ((below_new wr (.cells #[.int .i64 t, .int .i64 p, .int .i64 o] 65)).mono hsz))
      have HOn := Lib.hid (ownsRow_kept HO.out (below_new wr (.cells #[.int .i64 t, .int .i64 p, .int .i64 o] 65)))
      clear hpt
      obtain ⟨x1, x2⟩ := tdiv_sizeO (g := t) b1 b2
      by_cases e1 : (y - p).tmod t = 0
      · have HRM := Lib.hid (fun w => l1Mod_r ((y - p).tdiv t) K w (by omega) (by omega))
        by_cases e2 : (y - p).tdiv t % (K : Int) = (j : Int)
        · have HT2 := Lib.hid (HY.out _ (HC2.out e1 e2))
          rw [e2] at HRM
          clear HC1 HC2 HC3 HY HNJ e2
          obtain ⟨l, hl⟩ : ∃ l, l = bfT ps n j := ⟨_, rfl⟩
          rw [← hl] at HO HOn HT2 hlen
          clear hl
          obtain ⟨X, hX⟩ : ∃ X, (y - p).tdiv t = X := ⟨_, rfl⟩
          rw [hX] at HRM HT2 x1 x2
          obtain ⟨Z, hZ⟩ : ∃ Z, X * t = Z := ⟨_, rfl⟩
          rw [hX, hZ] at z1 z2 hwm
          have e1z : Z + p = y := hwm.2 e1
          clear hwm e1
          have hj3 : l.length + 1 ≤ maxLen := by unfold maxLen; omega
          have hll : l.length ≤ 8 := by omega
          go_wp2_with fail
          refine (HRM.out _).mono ?_
          rintro e w4 ⟨rfl, rfl⟩
          have HO2 := Lib.hid (HO.out.alloc (.cells #[.int .i64 t, .int .i64 p, .int .i64 o] 65))
          go_wp2_with (at_builtin; refine wpList_append_own _ rfl _ _ 38 rfl (w.heap.size + 1) 3 i0 (.int .i64 0) 1 8 Try.underlying38 hi hi0 hi1 hi2 rfl (by decide) _ _ _ rfl (HO2.out.alloc _) ⟨wr.heap.size + 1, 0, none⟩ 1 1 [.int .i64 X] rfl rfl ?_ ?_ ?_ ?_ ?_ ?_; rotate_right; intro v' w3 hown hgrow _)
          · have hgr : ((wr.alloc (.cells #[.int .i64 t, .int .i64 p, .int .i64 o] 65)).alloc (.cells #[.int .i64 X] 3)).grownBy w3 u5.ownBlock := hgrow
            have hbg : Below (w.heap.size + 1) wr w3 := (((Below.refl (w.heap.size + 1) wr).alloc p1 _).alloc (by simp; omega) _).grown hgr (by simp; omega) (fun k e => (HO2.out.lt k e).1)
            refine ⟨⟨j + 1, hlt, by go_num, ?_, HBO.out.of hbg.size (hbg.block _ (by omega)), HBR.out.trans (hbg.mono (by omega))⟩, by simp [RowKit.intOf]; omega⟩
            unfold IntsAt
            rw [HT2.out, List.map_append, List.length_append]
            exact hown
          · exact fun j u hu => new_cell_o _ _ _ (by simp) hu
          · simp [Value.oneCell']
          · exact hj3
          · omega
          · simp; omega
        · have HT2 := Lib.hid (HNJ.out (HC3.out e2))
          clear HC1 HC2 HC3 HY HNJ
          obtain ⟨R, hR⟩ : ∃ R, (y - p).tdiv t % (K : Int) = R := ⟨_, rfl⟩
          rw [hR] at HRM e2
          clear hR
          obtain ⟨X, hX⟩ : ∃ X, (y - p).tdiv t = X := ⟨_, rfl⟩
          rw [hX] at HRM x1 x2
          obtain ⟨Z, hZ⟩ : ∃ Z, X * t = Z := ⟨_, rfl⟩
          rw [hX, hZ] at z1 z2 hwm
          have e1z : Z + p = y := hwm.2 e1
          clear hwm e1
          go_wp2_with fail
          refine (HRM.out _).mono ?_
          rintro e w4 ⟨rfl, rfl⟩
          go_wp2_with fail
          exact ⟨⟨j + 1, hlt, by go_num, by rw [HT2.out]; exact HOn.out, HBn.out, HRn.out⟩, by simp [RowKit.intOf]; omega⟩
      · have HT2 := Lib.hid (HNJ.out (HC1.out e1))
        clear HC1 HC2 HC3 HY HNJ
        obtain ⟨X, hX⟩ : ∃ X, (y - p).tdiv t = X := ⟨_, rfl⟩
        rw [hX] at x1 x2
        obtain ⟨Z, hZ⟩ : ∃ Z, X * t = Z := ⟨_, rfl⟩
        rw [hX, hZ] at z1 z2 hwm
        have e1z : ¬ (Z + p = y) := fun e => e1 (hwm.1 e)
        clear hwm e1
        go_wp2_with fail
        exact ⟨⟨j + 1, hlt, by go_num, by rw [HT2.out]; exact HOn.out, HBn.out, HRn.out⟩, by simp [RowKit.intOf]; omega⟩
    · obtain rfl : j = K := by omega
      have hlt2 : ¬ ((j : Int) < (j : Int)) := by omega
      clear hrow hbo hbel
      go_wp2_with fail
      refine (trSorted_any HO.out (by omega)).mono ?_
      rintro e w4 ⟨v4, rfl, hr4, hb4⟩
      have HR4 := Lib.hid (show IntsAt w4 w.heap.size v4 (srtI (bfO ps n)) by rw [← HALL.out]; exact ownsRow_base hr4 hsz)
      have HB4 := Lib.hid (HBR.out.trans (hb4.mono hsz))
      clear hr4 hb4
      go_wp2_with fail
      go_ret
      exact ⟨_, rfl, HR4.out, HB4.out⟩
end Go.Proofs.Ytbhmplccjaijjaa
