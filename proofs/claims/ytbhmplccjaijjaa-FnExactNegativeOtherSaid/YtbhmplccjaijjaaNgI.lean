/-
  'NegativeOther' of the program.
-/
import Derived.Test.YtbhmplccjaijjaaNgM
import Derived.Deep.RegionLaw
import Derived.Deep.RegionWith
import Derived.Deep.CutRange
namespace Go.Proofs.Ytbhmplccjaijjaa
open Go.RowKit
set_option linter.unusedVariables false

/-- One part of a row is put anew. -/
theorem rowPut {w : World} {g r K : Nat} {f f' : Nat → Pt} {t p z : Int} (hr : r < K) (hq : f' r = (t, p, z)) (ho : ∀ i, i < K → i ≠ r → f' i = f i) (h : ∀ i, i < K → PtCell w g (i * 3) (f i) ∧ PtFree w g (i * 3)) :
    ∀ i, i < K → PtCell (((w.setCell ⟨g, r * 3, none⟩ (.int .i64 t)).setCell ⟨g, r * 3 + 1, none⟩ (.int .i64 p)).setCell ⟨g, r * 3 + 2, none⟩ (.int .i64 z)) g (i * 3) (f' i) ∧ PtFree (((w.setCell ⟨g, r * 3, none⟩ (.int .i64 t)).setCell ⟨g, r * 3 + 1, none⟩ (.int .i64 p)).setCell ⟨g, r * 3 + 2, none⟩ (.int .i64 z)) g (i * 3) := by
  intro i hi
  refine ⟨?_, (h i hi).2.set _ _ _ _ _ _⟩
  by_cases e : i = r
  · subst e
    rw [hq]
    exact (h i hi).1.set t p z
  · rw [ho i hi e]
    exact (h i hi).1.set_other (by omega) _ _ _

set_option maxRecDepth 100000 in
set_option maxHeartbeats 4000000 in
theorem iNegativeOther (ps : List Pt) (v : Value) (w : World) (hl : ps.length ≤ 1048576) (h : OthIn w v ps) :
    Calls Try.prog 48 #[v] w (RetOth (ngX ps) (omB ps) w) := by
  obtain ⟨a, c, rfl, hx⟩ := h.rd
  have HG := Lib.hid (fun X Y => isOther_any ps (.agg #[.slice a ps.length c]) ((w.alloc X).alloc Y) hl (h.kept ((below_new w X).alloc (by simp) Y)))
  have HX := Lib.hid hx
  clear h hx
  by_cases hg : omB ps = true
  case neg =>
    have hg' : omB ps = false := by simpa using hg
    have HL : Hid (ngX ps = []) := Lib.hid (by rw [ngX, hg']; rfl)
    rw [hg'] at HG
    rw [hg', HL.out]
    clear hg hg' hl HX
    generalize ps.length = K at *
    go_enter Try.func48, Try.ntmps48
    go_wp2_with fail
    refine (HG.out _ _).mono ?_
    rintro e w1 ⟨rfl, hb1⟩
    obtain ⟨h0, h1⟩ := (show w1.cell? ⟨w.heap.size + 1, 0, none⟩ = some (.slice none 0 0) ∧ w1.frozen? ⟨w.heap.size + 1, 0, none⟩ = false from ⟨(hb1.cell (p := ⟨w.heap.size + 1, 0, none⟩) (by simp)).trans (by go_simp), (hb1.frozen (p := ⟨w.heap.size + 1, 0, none⟩) (by simp)).trans (by go_simp)⟩)
    have hbw : Below w.heap.size w w1 := (((Below.refl _ w).alloc (Nat.le_refl _) (.cells #[.slice a K c] 29)).alloc (by simp) (.cells #[.slice none 0 0] 29)).trans (hb1.mono (by simp; omega))
    have HB1 := Lib.hid hbw
    clear hb1 hbw
    go_wp2_with fail
    refine bodyPost_ret (v := .tuple #[.agg #[.slice none 0 0], .bool false]) (by simp [results, Try.f48, go_sem, h0]) rfl ⟨_, rfl, ⟨Nat.le_refl _, none, 0, rfl, fun h => (h rfl).elim⟩, ?_⟩
    exact HB1.out.setCell (p := ⟨w.heap.size + 1, 0, none⟩) (by simp) _
  case pos =>
    have HL : Hid (ngX ps = ngL ps) := Lib.hid (by rw [ngX, if_pos hg])
    have HLE := Lib.hid (ngL_length ps)
    have HS0 := Lib.hid (ngS_zero ps)
    have HSS := Lib.hid (fun j (h : j < ps.length) => ngS_same h)
    have HSO := Lib.hid (fun j i (hi : i < ps.length) (h : i ≠ ngR ps.length j) => ngS_other hi h)
    have HSA := Lib.hid (fun i (hi : i < ps.length) => ngS_all hi)
    have HIN := Lib.hid (fun r (h : r < ps.length) => ptIn_iff.1 (ptOk_iff.1 (omB_at hg h)).1)
    obtain ⟨hl1, hl2⟩ := omB_len hg
    have HRC := Lib.hid (fun (r : Nat) => res_cast (-(r : Int)) hl1)
    have HRL := Lib.hid (fun r => ngR_lt r hl1)
    rw [hg] at HG
    rw [hg, HL.out]
    obtain ⟨K, hK⟩ : ∃ K, ps.length = K := ⟨_, rfl⟩
    rw [hK] at hl1 hl2 HX HLE HSS HSO HSA HRC HRL HIN HG ⊢
    clear hg hl hK
    have hK1 : (K : Int) ≤ 8 := by omega
    obtain ⟨i0, hi, hi0, hi1, hi2⟩ := info_parts infoPt
    go_enter Try.func48, Try.ntmps48
    go_wp2_with fail
    refine (HG.out _ _).mono ?_
    rintro e w1 ⟨rfl, hb1⟩
    obtain ⟨h0, h1⟩ := (show w1.cell? ⟨w.heap.size + 1, 0, none⟩ = some (.slice none 0 0) ∧ w1.frozen? ⟨w.heap.size + 1, 0, none⟩ = false from ⟨(hb1.cell (p := ⟨w.heap.size + 1, 0, none⟩) (by simp)).trans (by go_simp), (hb1.frozen (p := ⟨w.heap.size + 1, 0, none⟩) (by simp)).trans (by go_simp)⟩)
    have h2 : w1.cell? ⟨w.heap.size, 0, none⟩ = some (.slice a K c) := (hb1.cell (p := ⟨w.heap.size, 0, none⟩) (by simp; omega)).trans (by go_simp)
    have hbw : Below w.heap.size w w1 := (((Below.refl _ w).alloc (Nat.le_refl _) (.cells #[.slice a K c] 29)).alloc (by simp) (.cells #[.slice none 0 0] 29)).trans (hb1.mono (by simp; omega))
    have hsz : w.heap.size + 1 < w1.heap.size := by have := hb1.size; simp at this; omega
    have HB1 := Lib.hid hbw
    clear hb1 hbw
    go_wp2_with (at_make; refine wpList_make_full _ rfl _ _ 27 rfl w1.heap.size 65 i0 (.agg #[.int .i64 0, .int .i64 0, .int .i64 0]) 3 Try.underlying27 hi hi0 hi1 .i64 .i64 K K K rfl rfl rfl rfl ?c1 ?c2 ?c3 ?_; rotate_right; intro w3 hown3 hgrow3; have HW3 : Hid (Below w1.heap.size w1 w3) := Lib.hid ((Below.refl _ w1).grown hgrow3 (Nat.le_refl _) (fun k e => by simp at e)); have h3 := (HW3.out.cell (p := ⟨w.heap.size, 0, none⟩) (Nat.lt_of_succ_lt hsz)).trans h2)
    case c1 => rw [hi2]; omega
    case c2 => unfold maxLen; omega
    case c3 => simp
    have HO3 : Hid (∀ j, j < K → PtCell w3 w1.heap.size (j * 3) (ngS ps 0 j) ∧ PtFree w3 w1.heap.size (j * 3)) := Lib.hid (fun j hj => by
      have hc : ∀ i, i < K * 3 → w3.cell? ⟨w1.heap.size, i, none⟩ = some (.int .i64 0) := by
        intro i hi
        rw [World.ownsRow.cellAt hown3 i hi]
        have hm : i % 3 = 0 ∨ i % 3 = 1 ∨ i % 3 = 2 := by omega
        rcases hm with hm | hm | hm <;> simp [madeCells, hi, Value.cells, hm]
      rw [HS0.out]
      exact ⟨⟨hc _ (by omega), hc _ (by omega), hc _ (by omega)⟩, World.ownsRow.frozenAt hown3 _, World.ownsRow.frozenAt hown3 _, World.ownsRow.frozenAt hown3 _⟩)
    have HZ3 : Hid (w1.heap.size < w3.heap.size) := Lib.hid (World.ownsRow.lt hown3 _ rfl).2
    clear hown3 hgrow3
    go_loopw [5, 6, 18] (fun _ _ x wr => ∃ j : Nat, j ≤ K ∧ x = .int .i64 j ∧ (∀ i, i < K → PtCell wr w1.heap.size (i * 3) (ngS ps j i) ∧ PtFree wr w1.heap.size (i * 3)) ∧ w1.heap.size < wr.heap.size ∧ Below w1.heap.size w1 wr) (fun _ _ x _ => K - (RowKit.intOf x).toNat)
    case atStart => exact ⟨0, by omega, rfl, HO3.out, HZ3.out, HW3.out⟩
    case round =>
      clear HO3 HZ3 HW3
      obtain ⟨j, hj, rfl, hrows, hsz2, hbr⟩ := hrel
      have HROW := Lib.hid hrows
      have HBR := Lib.hid hbr
      have HBL := Lib.hid (HB1.out.trans (hbr.mono HB1.out.size))
      by_cases hlt : j < K
      · obtain ⟨g, rfl, hgl, q⟩ := HX.out j hlt
        have q2 := q.of (HBL.out.block g hgl)
        have hin := HIN.out j hlt
        have hrl := HRL.out j
        have HSJ := Lib.hid (HSS.out j hlt)
        have HSN := Lib.hid (fun i hi h => HSO.out j i hi h)
        have hwj : IntKind.i64.wrap (-(j : Int)) = -(j : Int) := IntWalk.i64_in _ (by omega)
        have HRM : Hid (∀ W, Calls Try.prog 83 #[.int .i64 (-(j : Int)), .int .i64 (K : Int)] W fun e w' => e = .returned (.int .i64 ((ngR K j : Nat) : Int)) ∧ W = w') := Lib.hid (fun W => by
          have h := remainderOf_any (-(j : Int)) (K : Int) W (by omega) (by omega)
          rw [← HRC.out j] at h
          exact h)
        have HRM2 : Hid (∀ W, Calls Try.prog 83 #[.int .i64 (IntKind.i64.wrap (-(j : Int))), .int .i64 (K : Int)] W fun e w' => e = .returned (.int .i64 ((ngR K j : Nat) : Int)) ∧ W = w') := Lib.hid (by rw [hwj]; exact HRM.out)
        clear q
        obtain ⟨r, hr⟩ : ∃ r, ngR K j = r := ⟨_, rfl⟩
        rw [hr] at HRM HRM2 HSJ HSN hrl
        obtain ⟨pt, hpt⟩ : ∃ pt, ps.getD j pt0 = pt := ⟨_, rfl⟩
        rw [hpt] at q2 hin HSJ
        obtain ⟨t, p, o⟩ := pt
        obtain ⟨k0, k1, k2⟩ := q2
        dsimp only at k0 k1 k2 hin
        obtain ⟨j1, j2, j3, j4, j5, j6⟩ := hin
        obtain ⟨⟨m0, m1, m2⟩, f0, f1, f2⟩ := hrows r hrl
        obtain ⟨u0, hu0⟩ : ∃ u, (ngS ps j r).1 = u := ⟨_, rfl⟩
        obtain ⟨u1, hu1⟩ : ∃ u, (ngS ps j r).2.1 = u := ⟨_, rfl⟩
        obtain ⟨u2, hu2⟩ : ∃ u, (ngS ps j r).2.2 = u := ⟨_, rfl⟩
        rw [hu0] at m0
        rw [hu1] at m1
        rw [hu2] at m2
        have HNG := Lib.hid (fun W => negative_any t p o W j3 j4)
        have hlt2 : (j : Int) < (K : Int) := by omega
        have hj0 : (0 : Int) ≤ (j : Int) := by omega
        have hrl2 : (r : Int) < (K : Int) := by omega
        have hr0 : (0 : Int) ≤ (r : Int) := by omega
        have hm1 : ¬ (wr.heap.size = w1.heap.size) := by omega
        have hm2 : ¬ (w1.heap.size = wr.heap.size) := by omega
        clear hr hpt hrows hbr hu0 hu1 hu2
        go_upto_region 7 with fail
        go_region_with (first
          | (go_at_call 83; refine (HRM.out _).mono ?_; rintro e w4 ⟨rfl, rfl⟩)
          | (go_at_call 82; refine (HNG.out _).mono ?_; rintro e w5 ⟨rfl, hb5⟩; have hb6 : Below (wr.alloc (.cells #[.int .i64 t, .int .i64 p, .int .i64 o] 65)).heap.size (wr.alloc (.cells #[.int .i64 t, .int .i64 p, .int .i64 o] 65)) w5 := (by first | exact hb5 | exact (Below.refl _ _).drew.trans hb5 | exact (Below.refl _ _).drew.drew.trans hb5); have HB5 : Hid (Below wr.heap.size wr w5) := Lib.hid ((below_new wr (.cells #[.int .i64 t, .int .i64 p, .int .i64 o] 65)).trans (hb6.mono (by simp))); have n0 := kept_cell HB5.out hsz2 m0; have n1 := kept_cell HB5.out hsz2 m1; have n2 := kept_cell HB5.out hsz2 m2; have z0 := kept_free HB5.out hsz2 f0; have z1 := kept_free HB5.out hsz2 f1; have z2 := kept_free HB5.out hsz2 f2; clear hb5 hb6))
        all_goals
          go_wp2_with fail
          have hrp := rowPut (w := w5) hrl HSJ.out HSN.out (fun i hi => ⟨(HROW.out i hi).1.of (HB5.out.block _ hsz2), (HROW.out i hi).2.of (HB5.out.block _ hsz2)⟩)
          exact ⟨⟨j + 1, hlt, by go_num, hrp, by simpa using Nat.lt_of_lt_of_le hsz2 HB5.out.size, below_set3 (HBR.out.trans (HB5.out.mono (Nat.le_of_lt hsz2))) (Nat.le_refl _) _ _ _⟩, by simp [RowKit.intOf]; omega⟩
      · obtain rfl : j = K := by omega
        have hlt2 : ¬ ((j : Int) < (j : Int)) := by omega
        have hrs : w.heap.size + 1 < wr.heap.size := by omega
        have c0 := (HBR.out.cell (p := ⟨w.heap.size + 1, 0, none⟩) hsz).trans h0
        have c1 := (HBR.out.frozen (p := ⟨w.heap.size + 1, 0, none⟩) hsz).trans h1
        have hc := World.cell?_setCell_same' wr ⟨w.heap.size + 1, 0, none⟩ (.slice (some ⟨w1.heap.size, 0, none⟩) j j) (by rw [c0]; rfl)
        clear hrows hbr
        go_wp2_with fail
        refine bodyPost_ret (v := .tuple #[.agg #[.slice (some ⟨w1.heap.size, 0, none⟩) j j], .bool true]) (by simp [results, Try.f48, go_sem, hc]) rfl ⟨_, rfl, ⟨Nat.le_refl _, some ⟨w1.heap.size, 0, none⟩, j, by rw [HLE.out], fun _ => ⟨w1.heap.size, rfl, by omega, by simp; omega, fun i hi => ?_⟩⟩, ?_⟩
        · rw [HLE.out] at hi
          have h9 := HROW.out i hi
          rw [HSA.out i hi] at h9
          have e9 : (wr.setCell ⟨w.heap.size + 1, 0, none⟩ (.slice (some ⟨w1.heap.size, 0, none⟩) j j)).heap[w1.heap.size]? = wr.heap[w1.heap.size]? := Below.heap_setCell _ _ _ _ (by simp; omega)
          exact ⟨h9.1.of e9, h9.2.of e9⟩
        · exact HBL.out.setCell (p := ⟨w.heap.size + 1, 0, none⟩) (by simp) _
end Go.Proofs.Ytbhmplccjaijjaa
