/-
  'pzAll' of the model: all hidden numbers that fit some clues.
-/
import Derived.Test.YtjnghlnhogalbaaPzG
namespace Go.Proofs.Ytjnghlnhogalbaa
open Go.RowKit
set_option linter.unusedVariables false

/-- A row of whole numbers made by the call. -/
def RetNew (xs : List Int) (w : World) (e : Ending) (w' : World) : Prop := ∃ v, e = .returned v ∧ IntsAt w' w.heap.size v xs ∧ Below w.heap.size w w'

/-- A box that holds a map. -/
def Bm (w : World) (b : Nat) (t p : Int) : Prop := (w.cell? ⟨b, 0, none⟩ = some (.int .i64 t) ∧ w.cell? ⟨b, 1, none⟩ = some (.int .i64 p)) ∧ b < w.heap.size
theorem Bm.kept {w w' : World} {b n : Nat} {t p : Int} (h : Bm w b t p) (hb : Below n w w') (hn : b < n) : Bm w' b t p :=
  ⟨⟨(hb.cell (p := ⟨b, 0, none⟩) hn).trans h.1.1, (hb.cell (p := ⟨b, 1, none⟩) hn).trans h.1.2⟩, Nat.lt_of_lt_of_le h.2 hb.size⟩
theorem Bm.keep {w w' : World} {b : Nat} {t p : Int} (h : Bm w b t p) (hb : Below w.heap.size w w') : Bm w' b t p := h.kept hb h.2
theorem Bm.new (w : World) (t p : Int) (T : TypeId) : Bm (w.alloc (.cells #[.int .i64 t, .int .i64 p] T)) w.heap.size t p := ⟨⟨by go_simp, by go_simp⟩, by simp⟩

set_option maxRecDepth 100000 in
set_option maxHeartbeats 8000000 in
theorem pzAll_any (t p : Int) (cs : List Pt) (a : Option Addr) (cap : Nat) (w : World) (hg : goodB t p = true) (hcl : cs.all clB = true) (hl : cs.length ≤ 6) (hx : ClIn w a cs) :
    Calls Try.prog 37 #[.agg #[.int .i64 t, .int .i64 p], .slice a cs.length cap] w (RetNew (solA t p cs) w) := by
  obtain ⟨i0, hi, hi0, hi1, hi2⟩ := info_parts info3
  obtain ⟨K, hK⟩ : ∃ K, cs.length = K := ⟨_, rfl⟩
  have HX : Hid (∀ j, j < K → ∃ b off, a = some ⟨b, off, none⟩ ∧ b < w.heap.size ∧ PtCell w b (off + j * 3) (cs.getD j pt0)) := Lib.hid (by rw [← hK]; exact hx)
  have HFIT := Lib.hid (fun k x y n W hn0 hn1 hc => pzFits_any t p k x y n W hg hn0 hn1 hc)
  have HCL := Lib.hid (fun r (hr : r < cs.length) => all_at hcl hr)
  have HS := Lib.hid (fun n j hj => all_take_yes (f := fun q => fitP t p q n) (ps := cs) (j := j) hj)
  have HN := Lib.hid (fun n j (hj : j < cs.length) (h : (cs.take j).all (fun q => fitP t p q n) = false) => (show (cs.take (j + 1)).all (fun q => fitP t p q n) = false by rw [List.take_add_one, List.all_append, h]; rfl))
  have HN2 := Lib.hid (fun n j (hj : j < cs.length) (h : fitP t p (cs.getD j pt0) n = false) => (show (cs.take (j + 1)).all (fun q => fitP t p q n) = false by
    rw [List.take_add_one, List.all_append, List.getElem?_eq_getElem hj]; rw [List.getD_eq_getElem?_getD, List.getElem?_eq_getElem hj] at h; simp at h ⊢; intro _; exact h))
  have HF : Hid (∀ n, (cs.take K).all (fun q => fitP t p q n) = allF t p cs n) := Lib.hid (fun n => by rw [← hK, List.take_length]; rfl)
  have HY := Lib.hid (fun j => solK_succ_yes (t := t) (p := p) (cs := cs) (j := j))
  have HNO := Lib.hid (fun j => solK_succ_no (t := t) (p := p) (cs := cs) (j := j))
  have HLEN := Lib.hid (fun j => solK_len t p cs j)
  have HZ : Hid (∀ W, IntsAt W (w.heap.size + 1) (.slice none 0 0) (solK t p cs 0)) := Lib.hid (fun W => intsAt_nil _ _)
  have HA : Hid (solA t p cs = solK t p cs 60) := Lib.hid rfl
  have HBM := Lib.hid (Bm.new w t p 31)
  have HB0 := Lib.hid (below_new w (.cells #[.int .i64 t, .int .i64 p] 31))
  rw [HA.out, hK]
  rw [hK] at hl HCL HS HN HN2
  have hK2 : (K : Int) ≤ 6 := by omega
  clear hx hg hcl hK HA
  go_enter Try.func37, Try.ntmps37
  go_wp2_with fail
  go_loopw [5, 6] (fun out x wr => ∃ j : Nat, j ≤ 60 ∧ x = .int .i64 (1 + (j : Int)) ∧ IntsAt wr (w.heap.size + 1) out (solK t p cs j) ∧ Bm wr w.heap.size t p ∧ Below w.heap.size w wr) (fun _ x _ => (61 - RowKit.intOf x).toNat)
  case atStart => exact ⟨0, by omega, rfl, HZ.out _, HBM.out, HB0.out⟩
  case round =>
    clear HZ HBM HB0
    obtain ⟨j, hj, rfl, hrow, hbm, hbel⟩ := hrel
    have HBM := Lib.hid hbm
    have HO := Lib.hid hrow
    have HBR := Lib.hid hbel
    have hsz := hbel.size
    obtain ⟨wo, rfl⟩ : ∃ wo : World, wo = wr := ⟨_, rfl⟩
    clear hrow hbel hbm
    obtain ⟨x, hx⟩ : ∃ x : Int, 1 + (j : Int) = x := ⟨_, rfl⟩
    by_cases hlt : j < 60
    · have hx1 : 1 ≤ x := by omega
      have hx2 : x ≤ 60 := by omega
      have HYJ := Lib.hid (HY.out j)
      have HNJ := Lib.hid (HNO.out j)
      have HXN : Hid (1 + ((j + 1 : Nat) : Int) = x + 1) := Lib.hid (by omega)
      rw [hx] at HYJ HNJ ⊢
      clear hx
      go_wp2_with fail
      go_loopw [7, 16] (fun f i wr => ∃ r : Nat, r ≤ K ∧ i = .int .i64 r ∧ f = .bool ((cs.take r).all (fun q => fitP t p q x)) ∧ Below wo.heap.size wo wr) (fun _ i _ => K - (RowKit.intOf i).toNat)
      case atStart => exact ⟨0, Nat.zero_le _, rfl, rfl, Below.refl _ _⟩
      case round =>
        obtain ⟨r, hr, rfl, rfl, hbi⟩ := hrel
        have HBI := Lib.hid hbi
        have HBM2 := Lib.hid (HBM.out.keep hbi)
        by_cases hlr : r < K
        · obtain ⟨g, off, rfl, hgs, q⟩ := HX.out r hlr
          have q2 := q.of (((HBR.out.mono (Nat.le_refl _)).trans (hbi.mono HBR.out.size)).block g hgs)
          have hc := HCL.out r hlr
          have HSR := Lib.hid (HS.out x r hlr)
          have HNR := Lib.hid (HN.out x r hlr)
          have HNR2 := Lib.hid (HN2.out x r hlr)
          clear q hbi
          obtain ⟨pt, hpt⟩ : ∃ pt, cs.getD r pt0 = pt := ⟨_, rfl⟩
          rw [hpt] at q2 HSR HNR2 hc
          obtain ⟨k, y, z⟩ := pt
          obtain ⟨k0, k1, k2⟩ := q2
          dsimp only at k0 k1 k2
          have hlt2 : (r : Int) < (K : Int) := by omega
          have HC := Lib.hid (fun W => HFIT.out k y z x W hx1 hx2 hc)
          clear hpt hc
          obtain ⟨⟨m0, m1⟩, m2⟩ := HBM2.out
          have mn1 : ¬ (w.heap.size = wr.heap.size) := by omega
          have mn2 : ¬ (wr.heap.size = w.heap.size) := by omega
          cases hf : (cs.take r).all (fun q => fitP t p q x)
          · have HNX := Lib.hid (HNR.out hf)
            clear HSR HNR2 HNR HC hf
            go_wp2_with fail
            exact ⟨⟨r + 1, hlr, by go_num, by rw [HNX.out], by first | exact HBI.out | exact HBI.out.alloc HBI.out.size _⟩, by simp [RowKit.intOf]; omega⟩
          · cases hv : fitP t p (k, y, z) x
            · have HNX := Lib.hid (HNR2.out hv)
              rw [hv] at HC
              clear HSR HNR2 HNR hf hv
              go_wp2_with fail
              refine (HC.out _).mono ?_
              rintro e w2 ⟨rfl, hb2⟩
              have HB2 : Hid (Below wo.heap.size wo w2) := Lib.hid (HBI.out.trans (by first | exact hb2.mono HBI.out.size | exact ((below_new _ _).trans (hb2.mono (by simp))).mono HBI.out.size))
              clear hb2
              go_wp2_with fail
              exact ⟨⟨r + 1, hlr, by go_num, by rw [HNX.out], HB2.out⟩, by simp [RowKit.intOf]; omega⟩
            · have HNX := Lib.hid (HSR.out hf hv)
              rw [hv] at HC
              clear HSR HNR2 HNR hf hv
              go_wp2_with fail
              refine (HC.out _).mono ?_
              rintro e w2 ⟨rfl, hb2⟩
              have HB2 : Hid (Below wo.heap.size wo w2) := Lib.hid (HBI.out.trans (by first | exact hb2.mono HBI.out.size | exact ((below_new _ _).trans (hb2.mono (by simp))).mono HBI.out.size))
              clear hb2
              go_wp2_with fail
              exact ⟨⟨r + 1, hlr, by go_num, by rw [HNX.out], HB2.out⟩, by simp [RowKit.intOf]; omega⟩
        · obtain rfl : r = K := by omega
          have hlt2 : ¬ ((r : Int) < (r : Int)) := by omega
          rw [HF.out]
          have HO2 := Lib.hid (show IntsAt wr (w.heap.size + 1) _ (solK t p cs j) from ownsRow_kept HO.out hbi)
          have hszm : w.heap.size + 1 ≤ wr.heap.size := HBM2.out.2
          have HBR2 := Lib.hid (HBR.out.trans (hbi.mono HBR.out.size))
          have hszr := HBR2.out.size
          obtain ⟨l, hl'⟩ : ∃ l, l = solK t p cs j := ⟨_, rfl⟩
          have hlen : l.length ≤ 60 := by rw [hl']; exact Nat.le_trans (HLEN.out j) hj
          rw [← hl'] at HO2 HYJ HNJ
          have hj2 : l.length + 1 ≤ maxLen := by unfold maxLen; omega
          clear hl' hbi
          cases hall : allF t p cs x
          · have HN3 := Lib.hid (HNJ.out hall)
            clear hall HYJ HNJ
            go_wp2_with fail
            exact ⟨⟨j + 1, hlt, by rw [HXN.out], by rw [HN3.out]; exact HO2.out, HBM2.out, HBR2.out⟩, by simp [RowKit.intOf]; omega⟩
          · have HY3 := Lib.hid (HYJ.out hall)
            clear hall HYJ HNJ
            go_wp2_with (at_builtin; refine wpList_append_own _ rfl _ _ 28 rfl (w.heap.size + 1) 3 i0 (.int .i64 0) 1 8 Try.underlying28 hi hi0 hi1 hi2 rfl (by decide) _ _ _ rfl (HO2.out.alloc _) ⟨wr.heap.size, 0, none⟩ 1 1 [.int .i64 x] rfl rfl ?_ ?_ ?_ ?_ ?_ ?_; rotate_right; intro v' w3 hown hgrow _)
            · have hbg : Below (w.heap.size + 1) wr w3 := ((Below.refl (w.heap.size + 1) wr).alloc hszm _).grown hgrow (by simp; omega) (fun k e => (HO2.out.lt k e).1)
              refine ⟨⟨j + 1, hlt, by rw [HXN.out], ?_, HBM2.out.kept hbg (Nat.lt_succ_self _), HBR2.out.trans (hbg.mono (by omega))⟩, by simp [RowKit.intOf]; omega⟩
              unfold IntsAt
              rw [HY3.out, List.map_append, List.length_append]
              exact hown
            all_goals first | exact fun j u hu => new_cell _ _ _ hu | exact hj2 | omega | (simp [Value.oneCell']; done) | (simp; omega)
    · have HJ : Hid (j = 60) := Lib.hid (by omega)
      have hx2 : ¬ (x ≤ 60) := by omega
      rw [hx]
      clear hx hlt hj
      go_wp2_with fail
      go_ret
      have h := HO.out
      rw [HJ.out] at h
      exact ⟨_, rfl, ownsRow_base h (by omega), HBR.out⟩
end Go.Proofs.Ytjnghlnhogalbaa
