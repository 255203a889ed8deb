/-
  'FallenResidues' of the program (gen_fr2.py).
-/
import Derived.Test.YtgobjobppajkbaaDoorFrS
import Derived.Test.YtgobjobppajkbaaDoorFrR
import Derived.Test.YtgobjobppajkbaaDoorFoR
namespace Go.Proofs.YtgobjobppajkbaaDoor
open Go.RowKit
set_option linter.unusedVariables false

theorem frQ (t p : Int) (K j i : Nat) : (if i < j then frK t p K i else (0, 0, 0)) = if i < j then frK t p K i else pt0 := rfl
/-- The rows when the first j are made. -/
def frJ (t p : Int) (K j i : Nat) : Pt := if i < j then frK t p K i else pt0
theorem frJ_same (t p : Int) (K j : Nat) : frJ t p K (j + 1) j = frK t p K j := if_pos (Nat.lt_succ_self _)
theorem frJ_other {t p : Int} {K j i : Nat} (h : i ≠ j) : frJ t p K (j + 1) i = frJ t p K j i := by
  unfold frJ
  by_cases h1 : i < j
  · rw [if_pos h1, if_pos (by omega)]
  · rw [if_neg h1, if_neg (by omega)]

set_option maxRecDepth 100000 in
set_option maxHeartbeats 4000000 in
theorem iFallenResidues (t p k : Int) (w : World) (htab : Tab w) :
    Calls Tryd.prog 10 #[.agg #[.int .i64 t, .int .i64 p], .int .i64 k] w (RetTris (frA t p k) (frB t p k) w) := by
  have HM := Lib.hid (fun w => isMap_any t p w)
  have HP := Lib.hid (fun w => isPower_any k w)
  have HT := Lib.hid htab
  clear htab
  cases hg : goodB t p
  · rw [hg] at HM
    have HA : Hid (frB t p k = false) := Lib.hid (by rw [frB, hg]; rfl)
    have HY := Lib.hid (frA_no HA.out)
    clear hg
    go_enter Tryd.func10, Tryd.ntmps10
    go_wp2_with fail
    refine (HM.out _).mono ?_
    rintro e w1 ⟨rfl, hb1⟩
    obtain ⟨c0, c1, hz, hb⟩ := map_block hb1
    clear hb1
    go_wp2_with fail
    go_ret2
    exact retT_none HY.out HA.out hb
  rw [hg] at HM
  cases hk : inB k 0 12
  · rw [hk] at HP
    have HA : Hid (frB t p k = false) := Lib.hid (by rw [frB, hk]; simp)
    have HY := Lib.hid (frA_no HA.out)
    clear hg hk
    go_enter Tryd.func10, Tryd.ntmps10
    go_wp2_with fail
    refine (HM.out _).mono ?_
    rintro e w1 ⟨rfl, hb1⟩
    obtain ⟨c0, c1, hz, hb⟩ := map_block hb1
    clear hb1
    go_wp2_with fail
    refine (HP.out _).mono ?_
    rintro e w' ⟨rfl, rfl⟩
    go_wp2_with fail
    go_ret2
    exact retT_none HY.out HA.out hb
  rw [hk] at HP
  by_cases hk0 : k = 0
  · have HA : Hid (frB t p k = false) := Lib.hid (by rw [frB, hk0]; simp)
    have HY := Lib.hid (frA_no HA.out)
    subst hk0
    clear hg hk
    go_enter Tryd.func10, Tryd.ntmps10
    go_wp2_with fail
    refine (HM.out _).mono ?_
    rintro e w1 ⟨rfl, hb1⟩
    obtain ⟨c0, c1, hz, hb⟩ := map_block hb1
    clear hb1
    go_wp2_with fail
    refine (HP.out _).mono ?_
    rintro e w' ⟨rfl, rfl⟩
    go_wp2_with fail
    go_ret2
    exact retT_none HY.out HA.out hb
  have hB : frB t p k = true := by rw [frB, hg, hk]; simpa using hk0
  obtain ⟨_, K, rfl, hK1, hK⟩ := frB_nat hB
  have HY : Hid (frA t p K = frL t p K (2 ^ K)) := Lib.hid (by rw [frA, if_pos hB]; rfl)
  have HA := Lib.hid hB
  obtain ⟨pw1, pw0⟩ := pow2_le (k := K) (by omega)
  have hNN : ((2 : Int) ^ K) = ((2 ^ K : Nat) : Int) := by simp
  have hn4 := pow2F hK
  have HRO := Lib.hid (fun (r : Nat) (h : r < 2 ^ K) W hT => rowOf_any t p r K W hT hg hK1 hK h)
  obtain ⟨n, hN⟩ : ∃ n : Nat, n = 2 ^ K := ⟨_, rfl⟩
  rw [← hN] at hNN HY hn4 HRO
  have hn : (n : Int) ≤ 4096 := by omega
  have hki : (K : Int) < 16 := by omega
  have hki2 : K ≤ 15 := by omega
  have hk1 : ¬ ((K : Int) = 0) := by omega
  have hkb : ((K : Int) == 0) = false := by simp; omega
  have HN := Lib.hid hn
  obtain ⟨i0, hi, hi0, hi1, hi2⟩ := info_parts infoKin
  have HK16 := Lib.hid hki2
  clear hg hk hN hn4 hB hk0
  go_enter Tryd.func10, Tryd.ntmps10
  go_wp2_with fail
  refine (HM.out _).mono ?_
  rintro e w1 ⟨rfl, hb1⟩
  obtain ⟨c0, c1, hz, hb⟩ := map_block hb1
  have HB := Lib.hid hb
  have HT1 := Lib.hid (tab_below HT.out hb (Nat.le_refl _))
  have q := tab_at HT1.out (k := K) HK16.out
  rw [hNN] at q
  clear hb1 hb
  go_wp2_with fail
  refine (HP.out _).mono ?_
  rintro e w' ⟨rfl, rfl⟩
  have HCC := Lib.hid (And.intro c0 c1)
  have HZ1 := Lib.hid hz
  go_wp2_with (at_make; refine wpList_make_full _ rfl _ _ 69 rfl w1.heap.size 72 i0 (.agg #[.int .i64 0, .int .i64 0, .int .i64 0]) 3 Tryd.underlying69 hi hi0 hi1 .i64 .i64 n n n rfl rfl rfl rfl ?c1 ?c2 ?c3 ?_; rotate_right; intro w3 hown3 hgrow3; have HW3 : Hid (Below w1.heap.size w1 w3) := Lib.hid ((Below.refl _ w1).grown hgrow3 (Nat.le_refl _) (fun k e => by simp at e)))
  case c1 => rw [hi2]; omega
  case c2 => unfold maxLen; omega
  case c3 => simp
  have HO3 : Hid (∀ j, j < n → PtCell w3 w1.heap.size (j * 3) (frJ t p K 0 j) ∧ PtFree w3 w1.heap.size (j * 3)) := Lib.hid (fun j hj => by
    have hc : ∀ i, i < n * 3 → w3.cell? ⟨w1.heap.size, i, none⟩ = some (.int .i64 0) := by
      intro i hi
      rw [World.ownsRow.cellAt hown3 i hi]
      have hm : i % 3 = 0 ∨ i % 3 = 1 ∨ i % 3 = 2 := by omega
      rcases hm with hm | hm | hm <;> simp [madeCells, hi, Value.cells, hm]
    rw [show frJ t p K 0 j = pt0 from if_neg (by omega)]
    exact ⟨⟨hc _ (by omega), hc _ (by omega), hc _ (by omega)⟩, World.ownsRow.frozenAt hown3 _, World.ownsRow.frozenAt hown3 _, World.ownsRow.frozenAt hown3 _⟩)
  have HZ3 : Hid (w1.heap.size < w3.heap.size) := Lib.hid (World.ownsRow.lt hown3 _ rfl).2
  clear hown3 hgrow3 c0 c1 q hz
  go_loopw [29] (fun x wr => ∃ j : Nat, j ≤ n ∧ x = .int .i64 j ∧ (∀ i, i < n → PtCell wr w1.heap.size (i * 3) (frJ t p K j i) ∧ PtFree wr w1.heap.size (i * 3)) ∧ w1.heap.size < wr.heap.size ∧ Below w1.heap.size w1 wr) (fun x _ => n - (RowKit.intOf x).toNat)
  case atStart => exact ⟨0, by omega, rfl, HO3.out, HZ3.out, HW3.out⟩
  case round =>
    clear HO3 HZ3 HW3
    obtain ⟨j, hj, rfl, hrows, hsz2, hbr⟩ := hrel
    have HROW := Lib.hid hrows
    have HBR := Lib.hid hbr
    have hz1 := HZ1.out
    have c0 := (hbr.cell (p := ⟨w.heap.size, 0, none⟩) HZ1.out).trans HCC.out.1
    have c1 := (hbr.cell (p := ⟨w.heap.size, 1, none⟩) HZ1.out).trans HCC.out.2
    by_cases hlt : j < n
    · have hlt2 : (j : Int) < (n : Int) := by omega
      have hj0 : (0 : Int) ≤ (j : Int) := by omega
      have HROJ := Lib.hid (HRO.out j hlt)
      have HSJ := Lib.hid (frJ_same t p K j)
      have HSO := Lib.hid (fun i (_ : i < n) (h : i ≠ j) => frJ_other (t := t) (p := p) (K := K) h)
      obtain ⟨qq, hqq⟩ : ∃ qq, frK t p K j = qq := ⟨_, rfl⟩
      rw [hqq] at HROJ HSJ
      obtain ⟨x0, x1, x2⟩ := qq
      obtain ⟨⟨m0, m1, m2⟩, f0, f1, f2⟩ := hrows j hlt
      dsimp only at HROJ
      have HTW := Lib.hid (tab_below HT1.out hbr (Nat.le_refl _))
      clear hqq hrows hbr
      go_wp2_with fail
      refine (HROJ.out _ HTW.out).mono ?_
      rintro e w4 ⟨rfl, hb4⟩
      have HB4 := Lib.hid hb4
      have d0 := (hb4.cell (p := ⟨w1.heap.size, j * 3, none⟩) hsz2).trans m0
      have d1 := (hb4.cell (p := ⟨w1.heap.size, j * 3 + 1, none⟩) hsz2).trans m1
      have d2 := (hb4.cell (p := ⟨w1.heap.size, j * 3 + 2, none⟩) hsz2).trans m2
      have e0 := (hb4.frozen (p := ⟨w1.heap.size, j * 3, none⟩) hsz2).trans f0
      have e1 := (hb4.frozen (p := ⟨w1.heap.size, j * 3 + 1, none⟩) hsz2).trans f1
      have e2 := (hb4.frozen (p := ⟨w1.heap.size, j * 3 + 2, none⟩) hsz2).trans f2
      clear hb4 m0 m1 m2 f0 f1 f2 c0 c1
      generalize (frJ t p K j j).1 = u0 at *
      generalize (frJ t p K j j).2.1 = u1 at *
      generalize (frJ t p K j j).2.2 = u2 at *
      go_wp2_with fail
      have hrp := rowPut (w := w4) hlt HSJ.out HSO.out (fun i hi => ⟨(HROW.out i hi).1.of (HB4.out.block _ hsz2), (HROW.out i hi).2.of (HB4.out.block _ hsz2)⟩)
      exact ⟨⟨j + 1, hlt, by go_num, hrp, by simpa using Nat.lt_of_lt_of_le hsz2 HB4.out.size, below_set3 (HBR.out.trans (HB4.out.mono (Nat.le_of_lt hsz2))) (Nat.le_refl _) _ _ _⟩, by simp [RowKit.intOf]; omega⟩
    · obtain rfl : j = n := by omega
      have hlt2 : ¬ ((j : Int) < (j : Int)) := by omega
      have HKI : Hid (KinsIn wr w1.heap.size (frR t p K j)) := Lib.hid (fun i hi => by
        rw [frR_len] at hi
        have h := (HROW.out i hi).1
        rw [show frJ t p K j i = frK t p K i from if_pos hi] at h
        rw [show (frR t p K j).getD i pt0 = frK t p K i from frR_at hi]
        exact h)
      have HSV := Lib.hid (sieveK_any (frR t p K j) w1.heap.size j wr (by rw [frR_len]; have := HN.out; omega) hsz2 HKI.out)
      rw [frR_len] at HSV
      have HBW := Lib.hid (HB.out.trans (hbr.mono HB.out.size))
      have HSZ := Lib.hid hbr.size
      have HFL : Hid ((frR t p K j).filter kB = frL t p K j) := Lib.hid rfl
      have hfl := frL_len t p K j
      rw [HFL.out] at HSV
      generalize frL t p K j = ys at *
      obtain ⟨i3, hi3, hi4, hi5, hi6⟩ := info_parts info36T
      clear hrows hbr c0 c1
      go_wp2_with fail
      refine HSV.out.mono ?_
      rintro e w4 ⟨v4, rfl, hrow4, hb4⟩
      obtain ⟨a4, cap4, rfl, hx4⟩ := hrow4.form
      have HX4 := Lib.hid hx4
      have HB4 := Lib.hid (HBW.out.trans (hb4.mono HBW.out.size))
      have hyl : (ys.length : Int) ≤ 4096 := by have := HN.out; omega
      clear hrow4 hx4 hb4
      obtain ⟨M, hM⟩ : ∃ M, ys.length = M := ⟨_, rfl⟩
      rw [hM] at HX4 hyl hfl
      have HTK : Hid (∀ i, i < M → ys.take (i + 1) = ys.take i ++ [ys.getD i (0, 0, 0)]) := Lib.hid (fun i hi => take_snoc3 (by omega))
      have HTL : Hid (∀ i, i ≤ M → (ys.take i).length = i) := Lib.hid (fun i hi => by rw [List.length_take]; omega)
      have HTF : Hid (ys.take M = ys) := Lib.hid (by rw [← hM]; exact List.take_length)
      go_wp2_with fail
      clear hM
      go_loopw [8, 43] (fun v x wr => ∃ i : Nat, i ≤ M ∧ x = .int .i64 i ∧ TrisAt wr w4.heap.size v (ys.take i) ∧ Below w4.heap.size w4 wr) (fun _ x _ => M - (RowKit.intOf x).toNat)
      case atStart => exact ⟨0, Nat.zero_le _, rfl, by simpa using trisAt_nil w4 w4.heap.size, Below.refl _ _⟩
      case round =>
        obtain ⟨i, hi', rfl, hrow, hbr⟩ := hrel
        have HBI := Lib.hid hbr
        have hszr := hbr.size
        by_cases hlt : i < M
        · obtain ⟨g, rfl, _, hg4, q4⟩ := HX4.out i hlt
          obtain ⟨q0, q1, q2⟩ := q4.of (hbr.block g hg4)
          have hlt2 : (i : Int) < (M : Int) := by omega
          have hi0 : (0 : Int) ≤ (i : Int) := by omega
          have HT2 := Lib.hid (HTK.out i hlt)
          have hln := HTL.out i (by omega)
          obtain ⟨l, hl⟩ : ∃ l, ys.take i = l := ⟨_, rfl⟩
          rw [hl] at hrow HT2 hln
          obtain ⟨qq, hqq⟩ : ∃ qq, ys.getD i (0, 0, 0) = qq := ⟨_, rfl⟩
          rw [hqq] at HT2
          rw [show ys.getD i pt0 = qq from hqq] at q0 q1 q2
          obtain ⟨x0, x1, x2⟩ := qq
          dsimp only at q0 q1 q2
          obtain ⟨bs, h1, h2, h3, h4⟩ := hrow
          rw [hln] at h1 h2
          have H1 := Lib.hid h1
          have H234 := Lib.hid (And.intro h2 (And.intro h3 h4))
          have hj2 : i + 1 ≤ maxLen := by unfold maxLen; omega
          clear h1 h2 h3 h4 hl hqq hbr
          go_wp2_with (at_builtin; refine wpList_append_own _ rfl _ _ 24 rfl w4.heap.size 32 i3 (.slice none 0 0) 1 24 Tryd.underlying24 hi3 hi4 hi5 hi6 rfl (by decide) _ _ _ rfl (((H1.out.alloc _).alloc _).alloc _) ⟨wr.heap.size + 1 + 1, 0, none⟩ 1 1 [slT (wr.heap.size + 1)] rfl rfl (fun j u hu => new_cell_at3 _ _ _ (by simp) hu) (by simp [Value.oneCell', slT]) hj2 (by omega) (by simp; omega) ?_; intro v5 w5 hown5 hgrow5 _)
          have hb3 : Below wr.heap.size wr (((wr.alloc (.cells #[.int .i64 x0, .int .i64 x1, .int .i64 x2] 72)).alloc (.cells #[.int .i64 x0, .int .i64 x1, .int .i64 x2] 3)).alloc (.cells #[slT (wr.heap.size + 1)] 32)) := (((Below.refl _ wr).alloc (Nat.le_refl _) _).alloc (by simp) _).alloc (by simp; omega) _
          have hpn : TriAt (((wr.alloc (.cells #[.int .i64 x0, .int .i64 x1, .int .i64 x2] 72)).alloc (.cells #[.int .i64 x0, .int .i64 x1, .int .i64 x2] 3)).alloc (.cells #[slT (wr.heap.size + 1)] 32)) (wr.heap.size + 1) (x0, x1, x2) := by
            have := tri_new (wr.alloc (.cells #[.int .i64 x0, .int .i64 x1, .int .i64 x2] 72)) x0 x1 x2 3
            have e : (wr.alloc (.cells #[.int .i64 x0, .int .i64 x1, .int .i64 x2] 72)).heap.size = wr.heap.size + 1 := by simp
            rw [e] at this
            exact this.of (((Below.refl (wr.heap.size + 2) _).alloc (by simp) _).block _ (by omega))
          have hpr := tris_snoc (rs := l) (by rw [hln]; exact H1.out) (by rw [hln]; exact H234.out.1) H234.out.2.1 H234.out.2.2 hb3 hszr (by omega) (by simp) hpn (by rw [hln]; exact hown5) hgrow5
          exact ⟨⟨i + 1, hlt, by go_num, by rw [HT2.out]; exact hpr, (HBI.out.trans (hb3.mono hszr)).grown hgrow5 (by simp; omega) (fun k e => (World.ownsRow.lt H1.out k e).1)⟩, by simp [RowKit.intOf]; omega⟩
        · obtain rfl : i = M := by omega
          have hlt2 : ¬ ((i : Int) < (i : Int)) := by omega
          rw [HTF.out] at hrow
          have HRW := Lib.hid hrow
          clear hrow hbr
          go_wp2_with fail
          go_ret2
          rw [HY.out, HA.out]
          exact ⟨_, rfl, HRW.out.base HB4.out.size, HB4.out.trans (HBI.out.mono HB4.out.size)⟩
end Go.Proofs.YtgobjobppajkbaaDoor
