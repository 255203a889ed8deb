/-
  'NegativeOther' of the model.
-/
import Derived.Test.YtbhmplccjaijjaaNgM
import Derived.Deep.RegionLaw
import Derived.Deep.RegionHeld3
import Derived.Deep.AppendLies
namespace Go.Proofs.Ytbhmplccjaijjaa
open Go.RowKit
set_option linter.unusedVariables false

theorem PtsAt.set {w : World} {B b : Nat} {v : Value} {qs : List Pt} (h : PtsAt w B v qs) (hb : b < B) (u : Value) : PtsAt (w.setCell ⟨b, 0, none⟩ u) B v qs := by
  refine ⟨h.1, ?_⟩
  rcases h.2 with hn | ⟨g, cap, cur, hv, hB, hg, r⟩
  · exact .inl hn
  · exact .inr ⟨g, cap, cur, hv, hB, (Below.heap_setCell _ _ _ _ (by simp; omega)).trans hg, r⟩
theorem Bo.set {w : World} {b c : Nat} {x : Value} (h : Bo w b x) (hb : b ≠ c) (u : Value) : Bo (w.setCell ⟨c, 0, none⟩ u) b x :=
  h.of (by simp) (Below.heap_setCell _ _ _ _ (by simpa using hb))

set_option maxRecDepth 100000 in
set_option maxHeartbeats 4000000 in
theorem sNegativeOther (ps : List Pt) (v : Value) (w : World) (hl : ps.length ≤ 1048576) (h : OthIn w v ps) :
    Calls Try.prog 47 #[v] w (RetOth (ngX ps) (omB ps) w) := by
  obtain ⟨a, c, rfl, hx⟩ := h.rd
  have HG := Lib.hid (fun X Y => omGood_any ps (.agg #[.slice a ps.length c]) ((w.alloc X).alloc Y) hl (h.kept ((below_new w X).alloc (by simp) Y)))
  have HX := Lib.hid hx
  clear h hx
  by_cases hg : omB ps = true
  case neg =>
    have hg' : omB ps = false := by simpa using hg
    have HL : Hid (ngX ps = []) := Lib.hid (by rw [ngX, hg']; rfl)
    rw [hg'] at HG
    rw [hg', HL.out]
    clear hg hg' hl HX
    generalize ps.length = K at *
    go_enter Try.func47, Try.ntmps47
    go_wp2_with fail
    refine (HG.out _ _).mono ?_
    rintro e w1 ⟨rfl, hb1⟩
    obtain ⟨h0, h1⟩ := (show w1.cell? ⟨w.heap.size + 1, 0, none⟩ = some (.slice none 0 0) ∧ w1.frozen? ⟨w.heap.size + 1, 0, none⟩ = false from ⟨(hb1.cell (p := ⟨w.heap.size + 1, 0, none⟩) (by simp)).trans (by go_simp), (hb1.frozen (p := ⟨w.heap.size + 1, 0, none⟩) (by simp)).trans (by go_simp)⟩)
    have hbw : Below w.heap.size w w1 := (((Below.refl _ w).alloc (Nat.le_refl _) (.cells #[.slice a K c] 29)).alloc (by simp) (.cells #[.slice none 0 0] 29)).trans (hb1.mono (by simp; omega))
    have HB1 := Lib.hid hbw
    clear hb1 hbw
    go_wp2_with fail
    refine bodyPost_ret (v := .tuple #[.agg #[.slice none 0 0], .bool false]) (by simp [results, Try.f47, go_sem, h0]) rfl ⟨_, rfl, ⟨Nat.le_refl _, none, 0, rfl, fun h => (h rfl).elim⟩, ?_⟩
    exact HB1.out.setCell (p := ⟨w.heap.size + 1, 0, none⟩) (by simp) _
  case pos =>
    have HL : Hid (ngX ps = ngL ps) := Lib.hid (by rw [ngX, if_pos hg])
    have HT := Lib.hid (fun j (h : j < ps.length) => ngT_succ h)
    have HTL := Lib.hid (fun j (h : j ≤ ps.length) => ngT_len h)
    have HTA := Lib.hid (ngT_all ps)
    have HLE := Lib.hid (ngL_length ps)
    have HIN := Lib.hid (fun r (h : r < ps.length) => ptIn_iff.1 (ptOk_iff.1 (omB_at hg h)).1)
    obtain ⟨hl1, hl2⟩ := omB_len hg
    have HRC := Lib.hid (fun (r : Nat) => res_cast (-(r : Int)) hl1)
    have HRL := Lib.hid (fun r => ngR_lt r hl1)
    rw [hg] at HG
    rw [hg, HL.out]
    obtain ⟨K, hK⟩ : ∃ K, ps.length = K := ⟨_, rfl⟩
    rw [hK] at hl1 hl2 HX HT HTL HTA HLE HRC HRL HIN HG ⊢
    have HZ : Hid (∀ W B, PtsAt W B (.slice none 0 0) (ngT ps 0)) := Lib.hid (fun W B => ptsAt_nil W B)
    clear hg hl hK
    obtain ⟨i0, hi, hi0, hi1, hi2⟩ := info_parts infoPt
    go_enter Try.func47, Try.ntmps47
    go_wp2_with fail
    refine (HG.out _ _).mono ?_
    rintro e w1 ⟨rfl, hb1⟩
    obtain ⟨h0, h1⟩ := (show w1.cell? ⟨w.heap.size + 1, 0, none⟩ = some (.slice none 0 0) ∧ w1.frozen? ⟨w.heap.size + 1, 0, none⟩ = false from ⟨(hb1.cell (p := ⟨w.heap.size + 1, 0, none⟩) (by simp)).trans (by go_simp), (hb1.frozen (p := ⟨w.heap.size + 1, 0, none⟩) (by simp)).trans (by go_simp)⟩)
    have h2 : w1.cell? ⟨w.heap.size, 0, none⟩ = some (.slice a K c) := (hb1.cell (p := ⟨w.heap.size, 0, none⟩) (by simp; omega)).trans (by go_simp)
    have hbw : Below w.heap.size w w1 := (((Below.refl _ w).alloc (Nat.le_refl _) (.cells #[.slice a K c] 29)).alloc (by simp) (.cells #[.slice none 0 0] 29)).trans (hb1.mono (by simp; omega))
    have hsz : w.heap.size + 1 < w1.heap.size := by have := hb1.size; simp at this; omega
    have HB1 := Lib.hid hbw
    have hn1 : ¬ (w.heap.size = w1.heap.size) := by omega
    have hn2 : ¬ (w1.heap.size = w.heap.size) := by omega
    have hn3 : w.heap.size < w1.heap.size := by omega
    have hn4 : ¬ (w.heap.size + 1 = w1.heap.size) := by omega
    have hn5 : ¬ (w1.heap.size = w.heap.size + 1) := by omega
    have HX0 : Hid (Bo (w1.alloc (.cells #[.slice none 0 0] 29)) w.heap.size (.slice a K c) ∧ Bo (w1.alloc (.cells #[.slice none 0 0] 29)) (w.heap.size + 1) (.slice none 0 0) ∧ (w1.alloc (.cells #[.slice none 0 0] 29)).frozen? ⟨w.heap.size + 1, 0, none⟩ = false ∧ Bo (w1.alloc (.cells #[.slice none 0 0] 29)) w1.heap.size (.slice none 0 0) ∧ (w1.alloc (.cells #[.slice none 0 0] 29)).frozen? ⟨w1.heap.size, 0, none⟩ = false ∧ Below w.heap.size w (w1.alloc (.cells #[.slice none 0 0] 29))) := Lib.hid (by
      have hb := below_new w1 (.cells #[.slice none 0 0] 29)
      exact ⟨⟨(hb.cell (p := ⟨w.heap.size, 0, none⟩) hn3).trans h2, by simp; omega⟩, ⟨(hb.cell (p := ⟨w.heap.size + 1, 0, none⟩) hsz).trans h0, by simp; omega⟩, (hb.frozen (p := ⟨w.heap.size + 1, 0, none⟩) hsz).trans h1, Bo.new _ _ _, by go_simp, HB1.out.trans (hb.mono HB1.out.size)⟩)
    go_wp2_with fail
    clear h0 h1 h2
    go_loopw [5, 6, 15] (fun _ _ i wr => ∃ (j : Nat) (out : Value), j ≤ K ∧ i = .int .i64 j ∧ PtsAt wr (w1.heap.size + 1) out (ngT ps j) ∧ Bo wr w.heap.size (.slice a K c) ∧ Bo wr (w.heap.size + 1) (.slice none 0 0) ∧ wr.frozen? ⟨w.heap.size + 1, 0, none⟩ = false ∧ Bo wr w1.heap.size out ∧ wr.frozen? ⟨w1.heap.size, 0, none⟩ = false ∧ Below w.heap.size w wr) (fun _ _ i _ => K - (RowKit.intOf i).toNat)
    case atStart =>
      obtain ⟨x1, x2, x3, x4, x5, x6⟩ := HX0.out
      exact ⟨0, _, Nat.zero_le _, rfl, HZ.out _ _, x1, x2, x3, x4, x5, x6⟩
    case round =>
      clear HX0 HZ HB1
      obtain ⟨j, out, hj, rfl, hpa, hbo, hbr, hfr, hbx, hfx, hbel⟩ := hrel
      have HPA := Lib.hid hpa
      have HBO := Lib.hid hbo
      have HBRR := Lib.hid (And.intro hbr hfr)
      have HBX := Lib.hid (And.intro hbx hfx)
      have HBL := Lib.hid hbel
      have hw1 := hbx.2
      by_cases hlt : j < K
      · obtain ⟨g, rfl, hgl, q⟩ := HX.out (ngR K j) (HRL.out j)
        have q2 := q.of (hbel.block g hgl)
        have hin := HIN.out (ngR K j) (HRL.out j)
        have HTS := Lib.hid (HT.out j hlt)
        have HTJ := Lib.hid (HTL.out j hj)
        have hrl := HRL.out j
        have HCM := Lib.hid (fun w => l1Mod_r (-(j : Int)) K w (by omega) (by omega))
        have hrc := HRC.out j
        have hrd : ngR K j = res K (-(j : Int)) := rfl
        rw [← hrc, ← hrd] at HCM
        have HCM2 : Hid (∀ w, Calls Try.prog 81 #[.int .i64 (IntKind.i64.wrap (-(j : Int))), .int .i64 (K : Int)] w fun e w' => e = .returned (.int .i64 ((ngR K j : Nat) : Int)) ∧ w = w') := Lib.hid (by rw [IntWalk.i64_in _ (by omega)]; exact HCM.out)
        clear q hrc hrd
        obtain ⟨r, hr⟩ : ∃ r, ngR K j = r := ⟨_, rfl⟩
        rw [hr] at q2 hin HTS HCM2 hrl
        obtain ⟨pt, hpt⟩ : ∃ pt, ps.getD r pt0 = pt := ⟨_, rfl⟩
        rw [hpt] at q2 hin HTS
        obtain ⟨t, p, o⟩ := pt
        obtain ⟨k0, k1, k2⟩ := q2
        dsimp only at k0 k1 k2 hin
        obtain ⟨i1, i2, i3, i4, i5, i6⟩ := hin
        obtain ⟨b0, b1⟩ := hbo
        obtain ⟨b2, b3⟩ := hbx
        have hlt2 : (j : Int) < (K : Int) := by omega
        have hj0 : (0 : Int) ≤ (j : Int) := by omega
        have hrl2 : (r : Int) < (K : Int) := by omega
        have hr0 : (0 : Int) ≤ (r : Int) := by omega
        have hm1 : ¬ (wr.heap.size = w.heap.size) := by omega
        have hm2 : ¬ (w.heap.size = wr.heap.size) := by omega
        have hm3 : ¬ (wr.heap.size = w1.heap.size) := by omega
        have hm4 : ¬ (w1.heap.size = wr.heap.size) := by omega
        have hge : ¬ (g = wr.heap.size) := by omega
        have hge2 : ¬ (wr.heap.size = g) := by omega
        have hge3 : g < wr.heap.size := by omega
        clear hr hpt hpa hbr hfr hbel
        go_upto_region 7 with fail
        go_cut [6] from 18 to 27 (fun s6 wx => s6 = .pointer (some ⟨wr.heap.size, 0, none⟩) ∧ Hid (Below wr.heap.size wr wx ∧ wx.cell? ⟨wr.heap.size, 0, none⟩ = some (.int .i64 t) ∧ wx.cell? ⟨wr.heap.size, 1, none⟩ = some (.int .i64 p) ∧ wx.cell? ⟨wr.heap.size, 2, none⟩ = some (.int .i64 o) ∧ wr.heap.size < wx.heap.size))
        case first =>
          go_region_held3 (fun w' => w'.cell? ⟨w.heap.size, 0, none⟩ = some (.slice (some ⟨g, 0, none⟩) K c) ∧ w'.cell? ⟨g, r * 3, none⟩ = some (.int .i64 t) ∧ w'.cell? ⟨g, r * 3 + 1, none⟩ = some (.int .i64 p) ∧ w'.cell? ⟨g, r * 3 + 2, none⟩ = some (.int .i64 o)) (go_keep)
            ((go_at_call 81; refine (HCM2.out _).mono ?_; rintro e w4 ⟨rfl, rfl⟩))
          all_goals
            go_wp2_with fail
            go_meet
            case rel => exact ⟨rfl, Lib.hid ⟨(below_new wr _).drew, by go_simp, by go_simp, by go_simp, by simp⟩⟩
        case rest =>
          obtain ⟨rfl, HQ⟩ := hcut
          obtain ⟨hq0, m0, m1, m2, hq1⟩ := HQ.out
          have c2 := (hq0.cell (p := ⟨w1.heap.size, 0, none⟩) b3).trans b2
          have c3 := (hq0.frozen (p := ⟨w1.heap.size, 0, none⟩) b3).trans hfx
          have HPA2 : Hid (PtsAt wc (w1.heap.size + 1) out (ngT ps j)) := Lib.hid (ownsRow_kept HPA.out hq0)
          have HBL2 := Lib.hid (HBL.out.trans (hq0.mono HBL.out.size))
          have HBO2 := Lib.hid (HBO.out.kept hq0)
          have HBR2 := Lib.hid (And.intro (HBRR.out.1.kept hq0) ((hq0.frozen (p := ⟨w.heap.size + 1, 0, none⟩) HBRR.out.1.2).trans HBRR.out.2))
          have hw3 : w1.heap.size < wc.heap.size := by omega
          have hj3 : (ngT ps j).length + 1 ≤ maxLen := by rw [HTJ.out]; unfold maxLen; omega
          have hw0 : w.heap.size + 1 < w1.heap.size := hsz
          have hnp : IntKind.i64.wrap (-p) = -p := IntWalk.i64_in _ (by omega)
          have HTV : Hid (ngT ps (j + 1) = ngT ps j ++ [(t, -p, o)]) := Lib.hid HTS.out
          have hlj := HTJ.out
          obtain ⟨l, hl⟩ : ∃ l, l = ngT ps j := ⟨_, rfl⟩
          rw [← hl] at HPA2 HTV hj3 hlj
          clear hl hq0 b0 b1 b2 b3 k0 k1 k2 HPA HTS HTJ HCM HCM2 HQ
          go_wp2_with (at_builtin; refine wpList_append_own _ rfl _ _ 27 rfl (w1.heap.size + 1) 65 i0 (.agg #[.int .i64 0, .int .i64 0, .int .i64 0]) 3 24 Try.underlying27 hi hi0 hi1 hi2 rfl (by decide) _ _ _ rfl (HPA2.out.alloc _) ⟨wc.heap.size, 0, none⟩ 1 1 [.int .i64 t, .int .i64 (-p), .int .i64 o] rfl rfl (fun j u hu => three_new _ _ _ _ _ rfl hu) (by simp [Value.oneCell']) hj3 (by omega) (by simp; omega) ?_; intro v5 w5 hown5 hgrow5 _; obtain ⟨g5, cap5, hv5, _, _⟩ := World.ownsRow.form hown5 (Nat.succ_pos _); subst hv5; have hb3 : Below (w1.heap.size + 1) wc (wc.alloc (.cells #[.int .i64 t, .int .i64 (-p), .int .i64 o] 65)) := (Below.refl _ wc).alloc hw3 _; have hbg : Below (w1.heap.size + 1) wc w5 := hb3.grown hgrow5 (by simp; omega) (fun k e => (World.ownsRow.lt HPA2.out k e).1); have d2 := (hbg.cell (p := ⟨w1.heap.size, 0, none⟩) (Nat.lt_succ_self _)).trans c2; have d3 := (hbg.frozen (p := ⟨w1.heap.size, 0, none⟩) (Nat.lt_succ_self _)).trans c3; have HBG := Lib.hid hbg; have HOW := Lib.hid hown5; clear hb3 hbg hown5 hgrow5)
          have hz5 := HBG.out.size
          have hP5 : PtsAt w5 (w1.heap.size + 1) (.slice (some ⟨g5, 0, none⟩) (j + 1) cap5) (ngT ps (j + 1)) := by
            unfold PtsAt
            have h := HOW.out
            rw [hlj] at h
            rw [HTV.out, ptCells_snoc, List.length_append, hlj]
            exact h
          refine ⟨⟨j + 1, _, hlt, by go_num, hP5.set (by omega) _, (HBO2.out.of hz5 (HBG.out.block _ (by omega))).set (by omega) _, (HBR2.out.1.of hz5 (HBG.out.block _ (by omega))).set (by omega) _, by rw [World.frozen?_setCell]; exact (HBG.out.frozen (p := ⟨w.heap.size + 1, 0, none⟩) (show w.heap.size + 1 < w1.heap.size + 1 by omega)).trans HBR2.out.2, ⟨World.cell?_setCell_same' _ _ _ (by rw [d2]; rfl), by simp; omega⟩, by rw [World.frozen?_setCell]; exact d3, (HBL2.out.trans (HBG.out.mono (by omega))).setCell (p := ⟨w1.heap.size, 0, none⟩) (show w.heap.size ≤ w1.heap.size by omega) _⟩, by simp [RowKit.intOf]; omega⟩
      · obtain rfl : j = K := by omega
        have hlt2 : ¬ ((j : Int) < (j : Int)) := by omega
        obtain ⟨a9, c9, hout, _⟩ := hpa.prow
        subst hout
        have hpr := (HPA.out.set (b := w.heap.size + 1) (by omega) (.slice a9 (ngT ps j).length c9)).prow
        obtain ⟨b2, b3⟩ := hbx
        obtain ⟨b4, b5⟩ := hbr
        have hc := World.cell?_setCell_same' wr ⟨w.heap.size + 1, 0, none⟩ (.slice a9 (ngT ps j).length c9) (by rw [b4]; rfl)
        have HTA2 := HTA.out
        obtain ⟨a8, c8, he8, hp9⟩ := hpr
        cases he8
        have HP9 := Lib.hid hp9
        clear hpa hbo hbel hp9
        go_wp2_with fail
        have hp9 := HP9.out
        rw [HTA2] at hp9 hc
        refine bodyPost_ret (v := .tuple #[.agg #[.slice a9 (ngL ps).length c9], .bool true]) (by simp [results, Try.f47, go_sem, hc]) rfl ⟨_, rfl, ⟨Nat.le_refl _, a9, c9, rfl, hp9.wide (by omega) (Nat.le_refl _)⟩, ?_⟩
        exact HBL.out.setCell (p := ⟨w.heap.size + 1, 0, none⟩) (by simp) _
end Go.Proofs.Ytbhmplccjaijjaa
