/-
  'trLevels', 'trLevel' of the model: the levels of a root as lists, in a row.
-/
import Derived.Test.YtjcpdlamgjpmmaaBefS
import Derived.Test.YtjcpdlamgjpmmaaSortT
import Derived.Test.YtjcpdlamgjpmmaaAskT
import Derived.Test.YtjcpdlamgjpmmaaLvO
namespace Go.Proofs.Ytjcpdlamgjpmmaa
open Go.RowKit
set_option linter.unusedVariables false

theorem info24 : (Try.prog.info? 28).map (fun i => (i.zero, i.size, i.bytes)) = some (some (.slice none 0 0), 1, 24) := by kernel_rfl
theorem IntsAt.one {w : World} {B : Nat} {v : Value} {xs : List Int} (h : IntsAt w B v xs) : v.oneCell' = true := by
  obtain ⟨a, cap, rfl⟩ := h.form
  simp [Value.oneCell']
/-- A row of slices that read as the lists ls. -/
def MRow (w : World) (B : Nat) (v : Value) (ls : List (List Int)) : Prop := ∃ vs : List Value, w.ownsRow B 28 1 v ls.length vs ∧ vs.length = ls.length ∧ ∀ (k : Nat) (u : Value), vs[k]? = some u → IntsAt w B u (ls.getD k [])
theorem IntsAt.lts {w : World} {B : Nat} {v : Value} {xs : List Int} (h : IntsAt w B v xs) : ∃ a cap, v = .slice a xs.length cap ∧ ∀ m, m < xs.length → ∃ g, a = some ⟨g, 0, none⟩ ∧ g < w.heap.size ∧ xs.length ≤ cap ∧ cap ≤ maxLen ∧ w.cell? ⟨g, m, none⟩ = some (.int .i64 (xs.getD m 0)) := by
  by_cases hn : 0 < xs.length
  · obtain ⟨g, cap, rfl, _, h2, h3, h4, h5⟩ := ints_row h hn
    exact ⟨_, cap, rfl, fun m hm => ⟨g, rfl, h2, h3, h4, (h5 m hm).1⟩⟩
  · obtain ⟨a, cap, rfl⟩ := h.form
    exact ⟨a, cap, rfl, fun m hm => absurd hm (by omega)⟩
theorem IntsAt.keptI {w w' : World} {B : Nat} {v : Value} {xs : List Int} (h : IntsAt w B v xs) (hb : Below w.heap.size w w') : IntsAt w' B v xs := ownsRow_kept h hb
/-- A row of integers is no row of slices. -/
theorem IntsAt.grownI {w w' : World} {B B' : Nat} {v u : Value} {n : Nat} {vs : List Value} {xs : List Int} (h : IntsAt w B u xs) (hr : w.ownsRow B' 28 1 v n vs) (hg : w.grownBy w' v.ownBlock) : IntsAt w' B u xs := by
  refine World.ownsRow.kept h hg ?_
  rcases h.2 with ⟨rfl, _⟩ | ⟨g, cap, cur, rfl, _, hgc, _⟩
  · exact .inl rfl
  · refine .inr fun e => ?_
    rcases hr.2 with ⟨rfl, _⟩ | ⟨g', cap', cur', rfl, _, hgc', _⟩
    · cases e
    · simp only [Value.ownBlock, Option.some.injEq] at e
      subst e
      rw [hgc] at hgc'
      cases hgc'
theorem MRow.kept {w w' : World} {B : Nat} {v : Value} {ls : List (List Int)} (h : MRow w B v ls) (hb : Below w.heap.size w w') : MRow w' B v ls := by
  obtain ⟨vs, h1, h2, h3⟩ := h
  exact ⟨vs, ownsRow_kept h1 hb, h2, fun k u hk => (h3 k u hk).keptI hb⟩
theorem MRow.base {w : World} {B B' : Nat} {v : Value} {ls : List (List Int)} (h : MRow w B v ls) (hb : B' ≤ B) : MRow w B' v ls := by
  obtain ⟨vs, h1, h2, h3⟩ := h
  exact ⟨vs, ownsRow_base h1 hb, h2, fun k u hk => ownsRow_base (h3 k u hk) hb⟩
theorem MRow.snoc {w : World} {B : Nat} {vs : List Value} {v u : Value} {ls : List (List Int)} {xs : List Int} (h1 : w.ownsRow B 28 1 v (ls.length + 1) (vs ++ [u])) (h2 : vs.length = ls.length) (h3 : ∀ (k : Nat) (u : Value), vs[k]? = some u → IntsAt w B u (ls.getD k [])) (h4 : IntsAt w B u xs) : MRow w B v (ls ++ [xs]) := by
  refine ⟨vs ++ [u], by simpa using h1, by simp [h2], fun k c hk => ?_⟩
  by_cases hlt : k < vs.length
  · rw [List.getElem?_append_left hlt] at hk
    have := h3 k c hk
    rwa [List.getD_eq_getElem?_getD, List.getElem?_append_left (by omega), ← List.getD_eq_getElem?_getD]
  · have hk2 : k < (vs ++ [u]).length := (List.getElem?_eq_some_iff.1 hk).1
    have hk3 : k = ls.length := by simp at hk2; omega
    subst hk3
    rw [List.getElem?_append_right (by omega), h2, Nat.sub_self] at hk
    cases hk
    rw [List.getD_eq_getElem?_getD, List.getElem?_append_right (Nat.le_refl _), Nat.sub_self]
    exact h4
/-- One of them. -/
theorem MRow.at {w : World} {B : Nat} {v : Value} {ls : List (List Int)} (h : MRow w B v ls) {k : Nat} (hk : k < ls.length) : ∃ g cap u, v = .slice (some ⟨g, 0, none⟩) ls.length cap ∧ B ≤ g ∧ g < w.heap.size ∧ ls.length ≤ cap ∧ cap ≤ maxLen ∧ w.cell? ⟨g, k, none⟩ = some u ∧ IntsAt w B u (ls.getD k []) := by
  obtain ⟨vs, h1, h2, h3⟩ := h
  obtain ⟨g, cap, rfl, a1, a2, a3, a4, a5⟩ := row_cells h1 (by omega)
  have hb : vs[k]? = some (vs[k]'(by omega)) := List.getElem?_eq_getElem _
  exact ⟨g, cap, _, rfl, a1, a2, a3, a4, a5 k _ hb, h3 k _ hb⟩
theorem take_fm {f : Int → List Int} {xs : List Int} {m : Nat} (h : m < xs.length) : (xs.take (m + 1)).flatMap f = (xs.take m).flatMap f ++ f (xs.getD m 0) := by
  rw [List.take_add_one, List.getElem?_eq_getElem h, List.flatMap_append, List.getD_eq_getElem?_getD, List.getElem?_eq_getElem h]
  simp
/-- What trLevels hands back. -/
def RetM (short : Bool) (t p r : Int) (K : Nat) (w : World) (e : Ending) (w' : World) : Prop :=
  Below w.heap.size w w' ∧ ((∃ xs v, levL short t p r K = some xs ∧ e = .returned (.tuple #[v, .bool true]) ∧ MRow w' w.heap.size v (lvA short t p r K)) ∨ (levL short t p r K = none ∧ e = .returned (.tuple #[.slice none 0 0, .bool false])))

set_option maxRecDepth 100000 in
set_option maxHeartbeats 4000000 in
theorem trLevels_false (t p r : Int) (K : Nat) (w : World) (hg : goodB t p = true) (hr : numB r = true) (hK : K ≤ 20) :
    Calls Try.prog 61 #[.agg #[.int .i64 t, .int .i64 p], .int .i64 r, .int .i64 (K : Int), .bool false] w (RetM false t p r K w) := by
  obtain ⟨i0, hi, hi0, hi1, hi2⟩ := info_parts info3
  obtain ⟨i1, hj, hj0, hj1, hj2⟩ := info_parts info24
  have HG := Lib.hid hg
  have HR := Lib.hid hr
  have HBF := Lib.hid (fun n w (hn : numB n = true) => trBefore_any t p n w hg hn)
  have HBS := Lib.hid (fun n w (hn : numB n = true) => trShort_any t p n w hg hn)
  have hK2 : (K : Int) ≤ 20 := by omega
  clear hg hr
  have hrow0 : MRow (((w.alloc (.cells #[.int .i64 t, .int .i64 p] 25)).alloc (.cells #[.int .i64 r] 3)).alloc (.cells #[.slice (some ⟨w.heap.size + 1, 0, none⟩) 1 1] 28)) (w.heap.size + 1) (.slice (some ⟨w.heap.size + 1 + 1, 0, none⟩) 1 1) (lvA false t p r 0) := by
    refine ⟨[.slice (some ⟨w.heap.size + 1, 0, none⟩) 1 1], ?_, rfl, fun k b hk => ?_⟩
    · have := World.ownsRow_lit (base := w.heap.size + 1) (e := 28) (size := 1) ((w.alloc (.cells #[.int .i64 t, .int .i64 p] 25)).alloc (.cells #[.int .i64 r] 3)) #[.slice (some ⟨w.heap.size + 1, 0, none⟩) 1 1] 1 (by simp) (by unfold maxLen; omega) (by simp)
      rw [lvA_length]
      simpa using this
    · cases k with
      | zero =>
        cases hk
        have := World.ownsRow_lit (base := w.heap.size + 1) (e := 3) (size := 1) (w.alloc (.cells #[.int .i64 t, .int .i64 p] 25)) #[.int .i64 r] 1 (by simp) (by unfold maxLen; omega) (by simp)
        have h2 : IntsAt ((w.alloc (.cells #[.int .i64 t, .int .i64 p] 25)).alloc (.cells #[.int .i64 r] 3)) (w.heap.size + 1) (.slice (some ⟨w.heap.size + 1, 0, none⟩) 1 1) [r] := by simpa [IntsAt] using this
        exact h2.keptI ((Below.refl _ _).alloc (Nat.le_refl _) _)
      | succ k => cases hk
  have HROW0 := Lib.hid hrow0
  have HB0 := Lib.hid ((((Below.refl _ w).alloc (Nat.le_refl _) (.cells #[.int .i64 t, .int .i64 p] 25)).alloc (by simp) (.cells #[.int .i64 r] 3)).alloc (by simp; omega) (.cells #[.slice (some ⟨w.heap.size + 1, 0, none⟩) 1 1] 28))
  clear hrow0
  go_enter Try.func61, Try.ntmps61
  go_wp2_with fail
  go_loopw [10, 11] (fun v i wr => ∃ j : Nat, j ≤ K ∧ i = .int .i64 j ∧ (∃ xs, levL false t p r j = some xs) ∧ MRow wr (w.heap.size + 1) v (lvA false t p r j) ∧ wr.cell? ⟨w.heap.size, 0, none⟩ = some (.int .i64 t) ∧ wr.cell? ⟨w.heap.size, 1, none⟩ = some (.int .i64 p) ∧ w.heap.size < wr.heap.size ∧ Below w.heap.size w wr) (fun _ i _ => K - (RowKit.intOf i).toNat)
  case atStart => exact ⟨0, Nat.zero_le _, rfl, ⟨_, rfl⟩, HROW0.out, by go_simp, by go_simp, by simp; omega, HB0.out⟩
  case round =>
    obtain ⟨j, hj', rfl, ⟨xs, hxs⟩, hlev, c0, c1, hz, hbel⟩ := hrel
    have HB := Lib.hid hbel
    clear hbel
    by_cases hlt : j < K
    · have hlt2 : (j : Int) < (K : Int) := by omega
      obtain ⟨vs, hrow, hvl, hvs⟩ := hlev
      rw [lvA_length] at hrow hvl
      obtain ⟨g, cap, rfl, hgB, hgl, hcap, hcm, hcells⟩ := row_cells hrow (Nat.succ_pos _)
      have hbk : vs[j]? = some (vs[j]'(by omega)) := List.getElem?_eq_getElem _
      obtain ⟨u, hu⟩ : ∃ u, vs[j]'(by omega) = u := ⟨_, rfl⟩
      rw [hu] at hbk
      have q := hcells j _ hbk
      have hui := hvs j u hbk
      rw [lvA_at _ _ _ _ (Nat.le_refl _), hxs, Option.getD_some] at hui
      obtain ⟨ua, uc, rfl, huc⟩ := hui.lts
      have hxl := levL_len hxs
      have HNUM := Lib.hid (fun x (h : x ∈ xs) => levL_num HG.out HR.out hxs h)
      have HUC := Lib.hid huc
      have HXS := Lib.hid hxs
      have HROW := Lib.hid hrow
      have HVS := Lib.hid hvs
      have HVL := Lib.hid hvl
      have hcap2 : (j : Int) + 1 ≤ (cap : Int) := by omega
      have hcm2 : (cap : Int) ≤ 9223372036854775807 := by unfold maxLen at hcm; omega
      obtain ⟨wo, rfl⟩ : ∃ wo : World, wo = wr := ⟨_, rfl⟩
      obtain ⟨S, hS⟩ : ∃ S, wo.heap.size = S := ⟨_, rfl⟩
      have HS := Lib.hid hS
      obtain ⟨L, hL⟩ : ∃ L, xs.length = L := ⟨_, rfl⟩
      have HL := Lib.hid hL
      rw [hS] at hz hgl HUC
      rw [hL] at HUC hxl q
      clear hxs hrow hvs hvl hui huc hcells hbk hu hcm hS hL
      go_wp2_with fail
      go_loopw [12, 29] (fun nv i wr => ∃ m : Nat, m ≤ L ∧ i = .int .i64 m ∧ IntsAt wr S nv ((xs.take m).flatMap (befB false t p)) ∧ Below S wo wr) (fun _ i _ => L - (RowKit.intOf i).toNat)
      case atStart => exact ⟨0, Nat.zero_le _, rfl, by rw [List.take_zero]; exact intsAt_nil _ _, Below.refl _ _⟩
      case round =>
        obtain ⟨m, hm, rfl, hown, hbel⟩ := hrel
        have HO := Lib.hid hown
        have HBE := Lib.hid hbel
        have hsS : S ≤ wr.heap.size := by have := hbel.size; have := HS.out; omega
        have e0 : wr.cell? ⟨w.heap.size, 0, none⟩ = some (.int .i64 t) := (hbel.cell (p := ⟨w.heap.size, 0, none⟩) hz).trans c0
        have e1 : wr.cell? ⟨w.heap.size, 1, none⟩ = some (.int .i64 p) := (hbel.cell (p := ⟨w.heap.size, 1, none⟩) hz).trans c1
        have hfl : ((xs.take m).flatMap (befB false t p)).length ≤ 4000 := by
          have := fm_len false t p (xs.take m)
          rw [List.length_take] at this
          omega
        clear hown
        by_cases hml : m < L
        · have hml2 : (m : Int) < (L : Int) := by omega
          have hmx : m < xs.length := by rw [HL.out]; exact hml
          obtain ⟨gu, rfl, hgu, huc1, huc2, huq⟩ := HUC.out m hml
          have q2 := (hbel.cell (p := ⟨gu, m, none⟩) hgu).trans huq
          have hxm : xs.getD m 0 ∈ xs := by rw [List.getD_eq_getElem?_getD, List.getElem?_eq_getElem hmx]; exact List.getElem_mem hmx
          have HNX := Lib.hid (HNUM.out _ hxm)
          have HTK := Lib.hid (take_fm (f := befB false t p) hmx)
          have hbl := bef_len false t p (xs.getD m 0)
          obtain ⟨x, hx⟩ : ∃ x, xs.getD m 0 = x := ⟨_, rfl⟩
          rw [hx] at q2 HNX HTK hbl
          obtain ⟨ys, hys⟩ : ∃ ys, (xs.take m).flatMap (befB false t p) = ys := ⟨_, rfl⟩
          rw [hys] at HO HTK hfl
          have hu1 : (L : Int) ≤ (uc : Int) := by omega
          have hu2 : (uc : Int) ≤ 9223372036854775807 := by unfold maxLen at huc2; omega
          clear hx hys hxm hmx huq hbel huc2
          go_wp2_with fail
          refine (HBF.out x _ HNX.out).mono ?_
          rintro e w2 ⟨v1, rfl, hup, hb2⟩
          have f0 := (hb2.cell (p := ⟨w.heap.size, 0, none⟩) (Nat.lt_of_lt_of_le hz hsS)).trans e0
          have f1 := (hb2.cell (p := ⟨w.heap.size, 1, none⟩) (Nat.lt_of_lt_of_le hz hsS)).trans e1
          have hs2 := Nat.le_trans hsS hb2.size
          have HO2 := Lib.hid (HO.out.keptI hb2)
          have HBE2 := Lib.hid (HBE.out.trans (hb2.mono hsS))
          have HUP := Lib.hid hup
          clear hup hb2 e0 e1
          rcases HUP.out with ⟨rfl, hnil⟩ | ⟨hne, hrow2⟩
          · have HNIL := Lib.hid hnil
            clear hnil
            go_wp2_with (at_builtin; refine wpList_append_own_none rfl _ _ 28 rfl S 3 i0 1 Try.underlying28 hi _ _ _ rfl HO2.out rfl ?_)
            exact ⟨⟨m + 1, hml, by go_num, by rw [HTK.out, HNIL.out, List.append_nil]; exact HO2.out, HBE2.out⟩, by simp [RowKit.intOf]; omega⟩
          · obtain ⟨gb, cb, rfl, _, hgb, hcb, hcb2, hirow⟩ := ints_row hrow2 (List.length_pos_iff.2 hne)
            have HPR := Lib.hid (part_of_row hirow)
            have hbm : ys.length + (befB false t p x).length ≤ maxLen := by unfold maxLen; omega
            have hlm : ((befB false t p x).map (Value.int .i64)).length = (befB false t p x).length * 1 := by simp
            clear hne hrow2 hirow HUP
            generalize befB false t p x = bs at *
            go_wp2_with (at_builtin; refine wpList_append_own _ rfl _ _ 28 rfl S 3 i0 (.int .i64 0) 1 8 Try.underlying28 hi hi0 hi1 hi2 rfl (by decide) _ _ _ rfl HO2.out ⟨gb, 0, none⟩ bs.length cb (bs.map (Value.int .i64)) rfl hlm HPR.out (ints_one bs) hbm (by omega) hs2 ?_; intro v4 w4 hown4 hgrow4 _)
            refine ⟨⟨m + 1, hml, by go_num, ?_, HBE2.out.grown hgrow4 hs2 (fun k e => (World.ownsRow.lt HO2.out k e).1)⟩, by simp [RowKit.intOf]; omega⟩
            rw [HTK.out]
            unfold IntsAt
            rw [List.length_append, List.map_append]
            exact hown4
        · obtain rfl : m = L := by omega
          have hml2 : ¬ ((m : Int) < (m : Int)) := by omega
          have htk : xs.take m = xs := List.take_of_length_le (by have := HL.out; omega)
          rw [htk] at HO
          rw [htk] at hfl
          have hls := levL_succ HXS.out
          obtain ⟨ys, hys⟩ : ∃ ys, xs.flatMap (befB false t p) = ys := ⟨_, rfl⟩
          rw [hys] at HO hls hfl
          have HLS := Lib.hid hls
          have hb2 : Below wo.heap.size wo wr := by have := HBE.out; rw [← HS.out] at this; exact this
          have HROW2 := Lib.hid (ownsRow_kept HROW.out hb2)
          have HVS2 := Lib.hid (fun k u hk => (HVS.out k u hk).keptI hb2)
          have HBW := Lib.hid (HB.out.trans (HBE.out.mono (Nat.le_of_lt hz)))
          have HSORT := Lib.hid (trSorted_any HO.out (by omega))
          obtain ⟨na, nc, rfl⟩ := HO.out.form
          have hMM : (ys.length : Int) ≤ 4000 := by omega
          clear htk hls hys hb2 hbel
          by_cases hM2 : 2000 < ys.length
          · have hgt : 2000 < (ys.length : Int) := by omega
            have HN : Hid (levL false t p r K = none) := Lib.hid (levL_less (j := j + 1) hlt (by rw [HLS.out, if_neg (by omega)]))
            go_wp2_with fail
            go_ret2
            exact ⟨HBW.out, .inr ⟨HN.out, rfl⟩⟩
          · have hgt : ¬ (2000 < (ys.length : Int)) := by omega
            have HLK : Hid (levL false t p r (j + 1) = some (srtI ys)) := Lib.hid (by rw [HLS.out, if_pos (by omega)])
            have hj3 : j + 1 + 1 ≤ maxLen := by unfold maxLen; omega
            go_wp2_with fail
            refine HSORT.out.mono ?_
            rintro e w2 ⟨v2, rfl, hr2, hb2⟩
            have HR2 := Lib.hid hr2
            have HROW3 := Lib.hid (ownsRow_kept HROW2.out hb2)
            have HVS3 := Lib.hid (fun k u hk => (HVS2.out k u hk).keptI hb2)
            have HBE2 := Lib.hid (HBE.out.trans (hb2.mono hsS))
            have hs2 := Nat.le_trans hsS hb2.size
            have hbase : w.heap.size + 1 ≤ w2.heap.size := by omega
            clear hr2 hb2
            obtain ⟨na2, nc2, rfl⟩ := HR2.out.form
            go_wp2_with (at_builtin; refine wpList_append_own _ rfl _ _ 76 rfl (w.heap.size + 1) 28 i1 (.slice none 0 0) 1 24 Try.underlying76 hj hj0 hj1 hj2 rfl (by decide) _ _ _ rfl (HROW3.out.alloc _) ⟨w2.heap.size, 0, none⟩ 1 1 [.slice na2 (srtI ys).length nc2] rfl rfl (fun j u hu => new_cell _ _ _ hu) (fun u hu => by rw [List.mem_singleton.1 hu]; exact HR2.out.one) hj3 (by omega) (by simp; omega) ?_; intro v5 w5 hown5 hgrow5 _)
            have hgrow6 : (w2.alloc (.cells #[.slice na2 (srtI ys).length nc2] 28)).grownBy w5 (some g) := hgrow5
            have hbg : Below (w.heap.size + 1) wo w5 := ((HBE2.out.mono hz).alloc hbase (.cells #[.slice na2 (srtI ys).length nc2] 28)).grown hgrow6 (by simp; omega) (fun k e => by cases e; omega)
            refine ⟨⟨j + 1, hlt, by go_num, ⟨_, HLK.out⟩, ?_, (hbg.cell (p := ⟨w.heap.size, 0, none⟩) (Nat.lt_succ_self _)).trans c0, (hbg.cell (p := ⟨w.heap.size, 1, none⟩) (Nat.lt_succ_self _)).trans c1, by have := hgrow5.size; simp at this; omega, HB.out.trans (hbg.mono (Nat.le_succ _))⟩, by simp [RowKit.intOf]; omega⟩
            rw [lvA_succ, HLK.out, Option.getD_some]
            have hb3 : Below w2.heap.size w2 (w2.alloc (.cells #[.slice na2 (srtI ys).length nc2] 28)) := (Below.refl _ _).alloc (Nat.le_refl _) _
            refine MRow.snoc (vs := vs) (by rw [lvA_length]; exact hown5) (by rw [lvA_length]; exact HVL.out) (fun k c hk => ((HVS3.out k c hk).keptI hb3).grownI (HROW3.out.alloc _) hgrow5) ?_
            have hr3 : IntsAt w2 (w.heap.size + 1) (.slice na2 (srtI ys).length nc2) (srtI ys) := ownsRow_base HR2.out (by omega)
            exact (hr3.keptI hb3).grownI (HROW3.out.alloc _) hgrow5
    · obtain rfl : j = K := by omega
      have hlt2 : ¬ ((j : Int) < (j : Int)) := by omega
      have HLV := Lib.hid (MRow.base hlev (Nat.le_succ w.heap.size))
      have HXS := Lib.hid hxs
      clear hlev hxs
      go_wp2_with fail
      go_ret2
      exact ⟨HB.out, .inl ⟨xs, _, HXS.out, rfl, HLV.out⟩⟩

set_option maxRecDepth 100000 in
set_option maxHeartbeats 4000000 in
theorem trLevels_true (t p r : Int) (K : Nat) (w : World) (hg : goodB t p = true) (hr : numB r = true) (hK : K ≤ 20) :
    Calls Try.prog 61 #[.agg #[.int .i64 t, .int .i64 p], .int .i64 r, .int .i64 (K : Int), .bool true] w (RetM true t p r K w) := by
  obtain ⟨i0, hi, hi0, hi1, hi2⟩ := info_parts info3
  obtain ⟨i1, hj, hj0, hj1, hj2⟩ := info_parts info24
  have HG := Lib.hid hg
  have HR := Lib.hid hr
  have HBF := Lib.hid (fun n w (hn : numB n = true) => trBefore_any t p n w hg hn)
  have HBS := Lib.hid (fun n w (hn : numB n = true) => trShort_any t p n w hg hn)
  have hK2 : (K : Int) ≤ 20 := by omega
  clear hg hr
  have hrow0 : MRow (((w.alloc (.cells #[.int .i64 t, .int .i64 p] 25)).alloc (.cells #[.int .i64 r] 3)).alloc (.cells #[.slice (some ⟨w.heap.size + 1, 0, none⟩) 1 1] 28)) (w.heap.size + 1) (.slice (some ⟨w.heap.size + 1 + 1, 0, none⟩) 1 1) (lvA true t p r 0) := by
    refine ⟨[.slice (some ⟨w.heap.size + 1, 0, none⟩) 1 1], ?_, rfl, fun k b hk => ?_⟩
    · have := World.ownsRow_lit (base := w.heap.size + 1) (e := 28) (size := 1) ((w.alloc (.cells #[.int .i64 t, .int .i64 p] 25)).alloc (.cells #[.int .i64 r] 3)) #[.slice (some ⟨w.heap.size + 1, 0, none⟩) 1 1] 1 (by simp) (by unfold maxLen; omega) (by simp)
      rw [lvA_length]
      simpa using this
    · cases k with
      | zero =>
        cases hk
        have := World.ownsRow_lit (base := w.heap.size + 1) (e := 3) (size := 1) (w.alloc (.cells #[.int .i64 t, .int .i64 p] 25)) #[.int .i64 r] 1 (by simp) (by unfold maxLen; omega) (by simp)
        have h2 : IntsAt ((w.alloc (.cells #[.int .i64 t, .int .i64 p] 25)).alloc (.cells #[.int .i64 r] 3)) (w.heap.size + 1) (.slice (some ⟨w.heap.size + 1, 0, none⟩) 1 1) [r] := by simpa [IntsAt] using this
        exact h2.keptI ((Below.refl _ _).alloc (Nat.le_refl _) _)
      | succ k => cases hk
  have HROW0 := Lib.hid hrow0
  have HB0 := Lib.hid ((((Below.refl _ w).alloc (Nat.le_refl _) (.cells #[.int .i64 t, .int .i64 p] 25)).alloc (by simp) (.cells #[.int .i64 r] 3)).alloc (by simp; omega) (.cells #[.slice (some ⟨w.heap.size + 1, 0, none⟩) 1 1] 28))
  clear hrow0
  go_enter Try.func61, Try.ntmps61
  go_wp2_with fail
  go_loopw [10, 11] (fun v i wr => ∃ j : Nat, j ≤ K ∧ i = .int .i64 j ∧ (∃ xs, levL true t p r j = some xs) ∧ MRow wr (w.heap.size + 1) v (lvA true t p r j) ∧ wr.cell? ⟨w.heap.size, 0, none⟩ = some (.int .i64 t) ∧ wr.cell? ⟨w.heap.size, 1, none⟩ = some (.int .i64 p) ∧ w.heap.size < wr.heap.size ∧ Below w.heap.size w wr) (fun _ i _ => K - (RowKit.intOf i).toNat)
  case atStart => exact ⟨0, Nat.zero_le _, rfl, ⟨_, rfl⟩, HROW0.out, by go_simp, by go_simp, by simp; omega, HB0.out⟩
  case round =>
    obtain ⟨j, hj', rfl, ⟨xs, hxs⟩, hlev, c0, c1, hz, hbel⟩ := hrel
    have HB := Lib.hid hbel
    clear hbel
    by_cases hlt : j < K
    · have hlt2 : (j : Int) < (K : Int) := by omega
      obtain ⟨vs, hrow, hvl, hvs⟩ := hlev
      rw [lvA_length] at hrow hvl
      obtain ⟨g, cap, rfl, hgB, hgl, hcap, hcm, hcells⟩ := row_cells hrow (Nat.succ_pos _)
      have hbk : vs[j]? = some (vs[j]'(by omega)) := List.getElem?_eq_getElem _
      obtain ⟨u, hu⟩ : ∃ u, vs[j]'(by omega) = u := ⟨_, rfl⟩
      rw [hu] at hbk
      have q := hcells j _ hbk
      have hui := hvs j u hbk
      rw [lvA_at _ _ _ _ (Nat.le_refl _), hxs, Option.getD_some] at hui
      obtain ⟨ua, uc, rfl, huc⟩ := hui.lts
      have hxl := levL_len hxs
      have HNUM := Lib.hid (fun x (h : x ∈ xs) => levL_num HG.out HR.out hxs h)
      have HUC := Lib.hid huc
      have HXS := Lib.hid hxs
      have HROW := Lib.hid hrow
      have HVS := Lib.hid hvs
      have HVL := Lib.hid hvl
      have hcap2 : (j : Int) + 1 ≤ (cap : Int) := by omega
      have hcm2 : (cap : Int) ≤ 9223372036854775807 := by unfold maxLen at hcm; omega
      obtain ⟨wo, rfl⟩ : ∃ wo : World, wo = wr := ⟨_, rfl⟩
      obtain ⟨S, hS⟩ : ∃ S, wo.heap.size = S := ⟨_, rfl⟩
      have HS := Lib.hid hS
      obtain ⟨L, hL⟩ : ∃ L, xs.length = L := ⟨_, rfl⟩
      have HL := Lib.hid hL
      rw [hS] at hz hgl HUC
      rw [hL] at HUC hxl q
      clear hxs hrow hvs hvl hui huc hcells hbk hu hcm hS hL
      go_wp2_with fail
      go_loopw [12, 29] (fun nv i wr => ∃ m : Nat, m ≤ L ∧ i = .int .i64 m ∧ IntsAt wr S nv ((xs.take m).flatMap (befB true t p)) ∧ Below S wo wr) (fun _ i _ => L - (RowKit.intOf i).toNat)
      case atStart => exact ⟨0, Nat.zero_le _, rfl, by rw [List.take_zero]; exact intsAt_nil _ _, Below.refl _ _⟩
      case round =>
        obtain ⟨m, hm, rfl, hown, hbel⟩ := hrel
        have HO := Lib.hid hown
        have HBE := Lib.hid hbel
        have hsS : S ≤ wr.heap.size := by have := hbel.size; have := HS.out; omega
        have e0 : wr.cell? ⟨w.heap.size, 0, none⟩ = some (.int .i64 t) := (hbel.cell (p := ⟨w.heap.size, 0, none⟩) hz).trans c0
        have e1 : wr.cell? ⟨w.heap.size, 1, none⟩ = some (.int .i64 p) := (hbel.cell (p := ⟨w.heap.size, 1, none⟩) hz).trans c1
        have hfl : ((xs.take m).flatMap (befB true t p)).length ≤ 4000 := by
          have := fm_len true t p (xs.take m)
          rw [List.length_take] at this
          omega
        clear hown
        by_cases hml : m < L
        · have hml2 : (m : Int) < (L : Int) := by omega
          have hmx : m < xs.length := by rw [HL.out]; exact hml
          obtain ⟨gu, rfl, hgu, huc1, huc2, huq⟩ := HUC.out m hml
          have q2 := (hbel.cell (p := ⟨gu, m, none⟩) hgu).trans huq
          have hxm : xs.getD m 0 ∈ xs := by rw [List.getD_eq_getElem?_getD, List.getElem?_eq_getElem hmx]; exact List.getElem_mem hmx
          have HNX := Lib.hid (HNUM.out _ hxm)
          have HTK := Lib.hid (take_fm (f := befB true t p) hmx)
          have hbl := bef_len true t p (xs.getD m 0)
          obtain ⟨x, hx⟩ : ∃ x, xs.getD m 0 = x := ⟨_, rfl⟩
          rw [hx] at q2 HNX HTK hbl
          obtain ⟨ys, hys⟩ : ∃ ys, (xs.take m).flatMap (befB true t p) = ys := ⟨_, rfl⟩
          rw [hys] at HO HTK hfl
          have hu1 : (L : Int) ≤ (uc : Int) := by omega
          have hu2 : (uc : Int) ≤ 9223372036854775807 := by unfold maxLen at huc2; omega
          clear hx hys hxm hmx huq hbel huc2
          go_wp2_with fail
          refine (HBF.out x _ HNX.out).mono ?_
          rintro e w2 ⟨v1, rfl, hup, hb2⟩
          have f0 := (hb2.cell (p := ⟨w.heap.size, 0, none⟩) (Nat.lt_of_lt_of_le hz hsS)).trans e0
          have f1 := (hb2.cell (p := ⟨w.heap.size, 1, none⟩) (Nat.lt_of_lt_of_le hz hsS)).trans e1
          have hs2 := Nat.le_trans hsS hb2.size
          have HO2 := Lib.hid (HO.out.keptI hb2)
          have HBE2 := Lib.hid (HBE.out.trans (hb2.mono hsS))
          clear hup hb2 e0 e1
          go_wp2_with fail
          refine (HBS.out x _ HNX.out).mono ?_
          rintro e w3 ⟨v3, rfl, hup, hb3⟩
          have hs3 := Nat.le_trans hs2 hb3.size
          have HO3 := Lib.hid (HO2.out.keptI hb3)
          have HBE3 := Lib.hid (HBE2.out.trans (hb3.mono hs2))
          have HUP := Lib.hid hup
          clear hup hb3 f0 f1
          rcases HUP.out with ⟨rfl, hnil⟩ | ⟨hne, hrow2⟩
          · have HNIL := Lib.hid hnil
            clear hnil
            go_wp2_with (at_builtin; refine wpList_append_own_none rfl _ _ 28 rfl S 3 i0 1 Try.underlying28 hi _ _ _ rfl HO3.out rfl ?_)
            exact ⟨⟨m + 1, hml, by go_num, by rw [HTK.out, HNIL.out, List.append_nil]; exact HO3.out, HBE3.out⟩, by simp [RowKit.intOf]; omega⟩
          · obtain ⟨gb, cb, rfl, _, hgb, hcb, hcb2, hirow⟩ := ints_row hrow2 (List.length_pos_iff.2 hne)
            have HPR := Lib.hid (part_of_row hirow)
            have hbm : ys.length + (befB true t p x).length ≤ maxLen := by unfold maxLen; omega
            have hlm : ((befB true t p x).map (Value.int .i64)).length = (befB true t p x).length * 1 := by simp
            clear hne hrow2 hirow HUP
            generalize befB true t p x = bs at *
            go_wp2_with (at_builtin; refine wpList_append_own _ rfl _ _ 28 rfl S 3 i0 (.int .i64 0) 1 8 Try.underlying28 hi hi0 hi1 hi2 rfl (by decide) _ _ _ rfl HO3.out ⟨gb, 0, none⟩ bs.length cb (bs.map (Value.int .i64)) rfl hlm HPR.out (ints_one bs) hbm (by omega) hs3 ?_; intro v4 w4 hown4 hgrow4 _)
            refine ⟨⟨m + 1, hml, by go_num, ?_, HBE3.out.grown hgrow4 hs3 (fun k e => (World.ownsRow.lt HO3.out k e).1)⟩, by simp [RowKit.intOf]; omega⟩
            rw [HTK.out]
            unfold IntsAt
            rw [List.length_append, List.map_append]
            exact hown4
        · obtain rfl : m = L := by omega
          have hml2 : ¬ ((m : Int) < (m : Int)) := by omega
          have htk : xs.take m = xs := List.take_of_length_le (by have := HL.out; omega)
          rw [htk] at HO
          rw [htk] at hfl
          have hls := levL_succ HXS.out
          obtain ⟨ys, hys⟩ : ∃ ys, xs.flatMap (befB true t p) = ys := ⟨_, rfl⟩
          rw [hys] at HO hls hfl
          have HLS := Lib.hid hls
          have hb2 : Below wo.heap.size wo wr := by have := HBE.out; rw [← HS.out] at this; exact this
          have HROW2 := Lib.hid (ownsRow_kept HROW.out hb2)
          have HVS2 := Lib.hid (fun k u hk => (HVS.out k u hk).keptI hb2)
          have HBW := Lib.hid (HB.out.trans (HBE.out.mono (Nat.le_of_lt hz)))
          have HSORT := Lib.hid (trSorted_any HO.out (by omega))
          obtain ⟨na, nc, rfl⟩ := HO.out.form
          have hMM : (ys.length : Int) ≤ 4000 := by omega
          clear htk hls hys hb2 hbel
          by_cases hM2 : 2000 < ys.length
          · have hgt : 2000 < (ys.length : Int) := by omega
            have HN : Hid (levL true t p r K = none) := Lib.hid (levL_less (j := j + 1) hlt (by rw [HLS.out, if_neg (by omega)]))
            go_wp2_with fail
            go_ret2
            exact ⟨HBW.out, .inr ⟨HN.out, rfl⟩⟩
          · have hgt : ¬ (2000 < (ys.length : Int)) := by omega
            have HLK : Hid (levL true t p r (j + 1) = some (srtI ys)) := Lib.hid (by rw [HLS.out, if_pos (by omega)])
            have hj3 : j + 1 + 1 ≤ maxLen := by unfold maxLen; omega
            go_wp2_with fail
            refine HSORT.out.mono ?_
            rintro e w2 ⟨v2, rfl, hr2, hb2⟩
            have HR2 := Lib.hid hr2
            have HROW3 := Lib.hid (ownsRow_kept HROW2.out hb2)
            have HVS3 := Lib.hid (fun k u hk => (HVS2.out k u hk).keptI hb2)
            have HBE2 := Lib.hid (HBE.out.trans (hb2.mono hsS))
            have hs2 := Nat.le_trans hsS hb2.size
            have hbase : w.heap.size + 1 ≤ w2.heap.size := by omega
            clear hr2 hb2
            obtain ⟨na2, nc2, rfl⟩ := HR2.out.form
            go_wp2_with (at_builtin; refine wpList_append_own _ rfl _ _ 76 rfl (w.heap.size + 1) 28 i1 (.slice none 0 0) 1 24 Try.underlying76 hj hj0 hj1 hj2 rfl (by decide) _ _ _ rfl (HROW3.out.alloc _) ⟨w2.heap.size, 0, none⟩ 1 1 [.slice na2 (srtI ys).length nc2] rfl rfl (fun j u hu => new_cell _ _ _ hu) (fun u hu => by rw [List.mem_singleton.1 hu]; exact HR2.out.one) hj3 (by omega) (by simp; omega) ?_; intro v5 w5 hown5 hgrow5 _)
            have hgrow6 : (w2.alloc (.cells #[.slice na2 (srtI ys).length nc2] 28)).grownBy w5 (some g) := hgrow5
            have hbg : Below (w.heap.size + 1) wo w5 := ((HBE2.out.mono hz).alloc hbase (.cells #[.slice na2 (srtI ys).length nc2] 28)).grown hgrow6 (by simp; omega) (fun k e => by cases e; omega)
            refine ⟨⟨j + 1, hlt, by go_num, ⟨_, HLK.out⟩, ?_, (hbg.cell (p := ⟨w.heap.size, 0, none⟩) (Nat.lt_succ_self _)).trans c0, (hbg.cell (p := ⟨w.heap.size, 1, none⟩) (Nat.lt_succ_self _)).trans c1, by have := hgrow5.size; simp at this; omega, HB.out.trans (hbg.mono (Nat.le_succ _))⟩, by simp [RowKit.intOf]; omega⟩
            rw [lvA_succ, HLK.out, Option.getD_some]
            have hb3 : Below w2.heap.size w2 (w2.alloc (.cells #[.slice na2 (srtI ys).length nc2] 28)) := (Below.refl _ _).alloc (Nat.le_refl _) _
            refine MRow.snoc (vs := vs) (by rw [lvA_length]; exact hown5) (by rw [lvA_length]; exact HVL.out) (fun k c hk => ((HVS3.out k c hk).keptI hb3).grownI (HROW3.out.alloc _) hgrow5) ?_
            have hr3 : IntsAt w2 (w.heap.size + 1) (.slice na2 (srtI ys).length nc2) (srtI ys) := ownsRow_base HR2.out (by omega)
            exact (hr3.keptI hb3).grownI (HROW3.out.alloc _) hgrow5
    · obtain rfl : j = K := by omega
      have hlt2 : ¬ ((j : Int) < (j : Int)) := by omega
      have HLV := Lib.hid (MRow.base hlev (Nat.le_succ w.heap.size))
      have HXS := Lib.hid hxs
      clear hlev hxs
      go_wp2_with fail
      go_ret2
      exact ⟨HB.out, .inl ⟨xs, _, HXS.out, rfl, HLV.out⟩⟩

theorem trLevels_any (short : Bool) (t p r : Int) (K : Nat) (w : World) (hg : goodB t p = true) (hr : numB r = true) (hK : K ≤ 20) :
    Calls Try.prog 61 #[.agg #[.int .i64 t, .int .i64 p], .int .i64 r, .int .i64 (K : Int), .bool short] w (RetM short t p r K w) := by
  cases short
  · exact trLevels_false t p r K w hg hr hK
  · exact trLevels_true t p r K w hg hr hK
set_option maxRecDepth 100000 in
set_option maxHeartbeats 2000000 in
theorem trLevel_any (short : Bool) (t p r k : Int) (w : World) :
    Calls Try.prog 40 #[.agg #[.int .i64 t, .int .i64 p], .int .i64 r, .int .i64 k, .bool short] w (RetInts (lvX short t p r k) (lvB short t p r k) w) := by
  have HA := Lib.hid (fun w => trAsked_any t p r k w)
  cases ha : askT t p r k
  · have HX : Hid (lvX short t p r k = []) := Lib.hid (by rw [lvX, lvO_no ha]; rfl)
    have HBB : Hid (lvB short t p r k = false) := Lib.hid (by rw [lvB, lvO_no ha]; rfl)
    rw [ha] at HA
    clear ha
    go_enter Try.func40, Try.ntmps40
    go_wp2_with fail
    refine (HA.out _).mono ?_
    rintro e w1 ⟨rfl, hb1⟩
    obtain ⟨c0, c1, hz, hb⟩ := map_block hb1
    clear hb1
    go_wp2_with fail
    go_ret2
    exact retI_none' HX.out HBB.out hb
  · obtain ⟨hg, hr, _, K, rfl, hK⟩ := askT_parts ha
    have HL := Lib.hid (fun w => trLevels_any short t p r K w hg hr hK)
    have HO := Lib.hid (lvO_yes (short := short) ha)
    rw [ha] at HA
    clear ha hg hr
    go_enter Try.func40, Try.ntmps40
    go_wp2_with fail
    refine (HA.out _).mono ?_
    rintro e w1 ⟨rfl, hb1⟩
    obtain ⟨c0, c1, hz, hb⟩ := map_block hb1
    have HB1 := Lib.hid hb
    clear hb1 hb
    go_wp2_with fail
    refine (HL.out _).mono ?_
    rintro e w2 ⟨hb2, (⟨xs, v, hxs, rfl, hlev⟩ | ⟨hxs, rfl⟩)⟩
    · obtain ⟨g, cap, u, rfl, hgB, hgl, hcap, hcm, q, hui⟩ := hlev.at (k := K) (by rw [lvA_length]; omega)
      rw [lvA_at _ _ _ _ (Nat.le_refl _), hxs, Option.getD_some] at hui
      obtain ⟨ua, uc, rfl⟩ := hui.form
      have HX : Hid (lvX short t p r K = xs) := Lib.hid (by rw [lvX, HO.out, hxs]; rfl)
      have HBB : Hid (lvB short t p r K = true) := Lib.hid (by rw [lvB, HO.out, hxs]; rfl)
      have HUI : Hid (IntsAt w2 w.heap.size _ xs) := Lib.hid (ownsRow_base hui (Nat.le_of_lt hz))
      have HB2 := Lib.hid (HB1.out.trans (hb2.mono (Nat.le_of_lt hz)))
      rw [lvA_length] at hcap ⊢
      have hcap2 : (K : Int) + 1 ≤ (cap : Int) := by omega
      have hcm2 : (cap : Int) ≤ 9223372036854775807 := by unfold maxLen at hcm; omega
      clear hxs hlev hui hb2 hcm c0 c1
      go_wp2_with fail
      go_ret2
      rw [HX.out, HBB.out]
      exact ⟨_, rfl, HUI.out, HB2.out⟩
    · have HX : Hid (lvX short t p r K = []) := Lib.hid (by rw [lvX, HO.out, hxs]; rfl)
      have HBB : Hid (lvB short t p r K = false) := Lib.hid (by rw [lvB, HO.out, hxs]; rfl)
      have HB2 := Lib.hid (HB1.out.trans (hb2.mono (Nat.le_of_lt hz)))
      clear hxs hb2 c0 c1
      go_wp2_with fail
      go_ret2
      exact retI_none' HX.out HBB.out HB2.out

theorem sShortLevel (t p r k : Int) (w : World) :
    Calls Try.prog 9 #[.agg #[.int .i64 t, .int .i64 p], .int .i64 r, .int .i64 k] w (RetInts (lvX true t p r k) (lvB true t p r k) w) := by
  have HL := Lib.hid (fun w => trLevel_any true t p r k w)
  go_enter Try.func9, Try.ntmps9
  go_wp2_with fail
  refine (HL.out _).mono ?_
  rintro e w1 ⟨v, rfl, hrow, hb1⟩
  obtain ⟨c0, c1, hz, hb⟩ := map_block hb1
  have HR : Hid (IntsAt w1 w.heap.size v (lvX true t p r k)) := Lib.hid (ownsRow_base hrow (by simp))
  clear hrow hb1 HL
  go_wp2_with fail
  go_ret2
  exact ⟨v, rfl, HR.out, hb⟩

set_option maxHeartbeats 2000000 in
theorem sShortBefore (t p n : Int) (w : World) :
    Calls Try.prog 16 #[.agg #[.int .i64 t, .int .i64 p], .int .i64 n] w (RetInts (lvX true t p n 1) (lvB true t p n 1) w) := by
  have HM := Lib.hid (fun w => mpGood_any t p w)
  have HI := Lib.hid (fun w => mpIs_any n w)
  cases hg : goodB t p
  · have hno : lvO true t p n 1 = none := lvO_no (by simp [askT, hg])
    have HX : Hid (lvX true t p n 1 = []) := Lib.hid (by rw [lvX, hno]; rfl)
    have HBB : Hid (lvB true t p n 1 = false) := Lib.hid (by rw [lvB, hno]; rfl)
    rw [hg] at HM
    clear hg hno
    go_enter Try.func16, Try.ntmps16
    go_wp2_with fail
    refine (HM.out _).mono ?_
    rintro e w1 ⟨rfl, hb1⟩
    obtain ⟨c0, c1, hz, hb⟩ := map_block hb1
    clear hb1
    go_wp2_with fail
    go_ret2
    exact retI_none' HX.out HBB.out hb
  · rw [hg] at HM
    cases hn : numB n
    · have hno : lvO true t p n 1 = none := lvO_no (by simp [askT, hn])
      have HX : Hid (lvX true t p n 1 = []) := Lib.hid (by rw [lvX, hno]; rfl)
      have HBB : Hid (lvB true t p n 1 = false) := Lib.hid (by rw [lvB, hno]; rfl)
      rw [hn] at HI
      clear hg hn hno
      go_enter Try.func16, Try.ntmps16
      go_wp2_with fail
      refine (HM.out _).mono ?_
      rintro e w1 ⟨rfl, hb1⟩
      obtain ⟨c0, c1, hz, hb⟩ := map_block hb1
      clear hb1
      go_wp2_with (go_at_call 36; refine (HI.out _).mono ?_; rintro e w' ⟨rfl, rfl⟩)
      go_ret2
      exact retI_none' HX.out HBB.out hb
    · have hyes : lvO true t p n 1 = some (befB true t p n) := by
        have h := lvO_yes (short := true) (t := t) (p := p) (r := n) (K := 1) (by simp [askT, hg, hn, inB])
        rw [levL_one hg] at h
        exact h
      have HX : Hid (lvX true t p n 1 = befB true t p n) := Lib.hid (by rw [lvX, hyes]; rfl)
      have HBB : Hid (lvB true t p n 1 = true) := Lib.hid (by rw [lvB, hyes]; rfl)
      have HF := Lib.hid (fun w => trShort_any t p n w hg hn)
      rw [hn] at HI
      clear hg hn hyes
      go_enter Try.func16, Try.ntmps16
      go_wp2_with fail
      refine (HM.out _).mono ?_
      rintro e w1 ⟨rfl, hb1⟩
      obtain ⟨c0, c1, hz, hb⟩ := map_block hb1
      have HB1 := Lib.hid hb
      clear hb1 hb
      go_wp2_with (go_at_call 36; refine (HI.out _).mono ?_; rintro e w' ⟨rfl, rfl⟩)
      refine (HF.out _).mono ?_
      rintro e w2 ⟨v, rfl, hup, hb2⟩
      have HR : Hid (IntsAt w2 w.heap.size v (befB true t p n)) := Lib.hid (ownsRow_base hup.isAt (Nat.le_of_lt hz))
      have HB2 := Lib.hid (HB1.out.trans (hb2.mono (Nat.le_of_lt hz)))
      clear hup hb2 c0 c1
      go_wp2_with fail
      go_ret2
      rw [HX.out, HBB.out]
      exact ⟨v, rfl, HR.out, HB2.out⟩
end Go.Proofs.Ytjcpdlamgjpmmaa
