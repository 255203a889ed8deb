/-
  'firstClues', 'clueAlone' of the program; 'LeftByClues' of both.
-/
import Derived.Test.YtheailbbnmblnaaPzK
import Derived.Test.YtheailbbnmblnaaSls
import Derived.Test.YtheailbbnmblnaaPartA
import Derived.Test.YtheailbbnmblnaaCpF
import Derived.Deep.RegionHeld3
import Derived.Deep.AppendLies
namespace Go.Proofs.Ytheailbbnmblnaa
open Go.RowKit
set_option linter.unusedVariables false

theorem firstClues_any (t p : Int) (a : Option Addr) (K c k : Nat) (w : World) (hk : k ≤ c) (hc : c ≤ maxLen) :
    Calls Try.prog 70 #[.agg #[.int .i64 t, .int .i64 p, .slice a K c], .int .i64 (k : Int)] w fun e w' => e = .returned (.slice a k k) ∧ Below w.heap.size w w' := by
  have h1 : (k : Int) ≤ (c : Int) := by omega
  have h0 : (0 : Int) ≤ (k : Int) := by omega
  have hkk : (k : Int) ≤ (k : Int) := Int.le_refl _
  have HB := Lib.hid (below_new w (.cells #[.int .i64 t, .int .i64 p, .slice a K c] 38))
  clear hk hc
  go_enter Try.func70, Try.ntmps70
  go_wp2_with fail
  go_ret
  exact ⟨rfl, HB.out⟩
theorem clueAlone_any (t p : Int) (ps : List Pt) (a : Option Addr) (c k : Nat) (w : World) (hk : k < ps.length) (hl : ps.length ≤ 6) (hc : ps.length ≤ c) (hx : ClIn w a ps) :
    Calls Try.prog 71 #[.agg #[.int .i64 t, .int .i64 p, .slice a ps.length c], .int .i64 (k : Int)] w fun e w' => ∃ a', e = .returned (.slice a' 1 1) ∧ ClIn w' a' [ps.getD k pt0] ∧ Below w.heap.size w w' := by
  obtain ⟨b, off, rfl, hb, hcell⟩ := hx k hk
  have HX := Lib.hid (fun W (h : Below w.heap.size w W) => (clIn_one_of hb hcell).keep h)
  have h1 : (k : Int) + 1 ≤ (c : Int) := by omega
  have h2 : (k : Int) ≤ (k : Int) + 1 := by omega
  have h0 : (0 : Int) ≤ (k : Int) := by omega
  have h3 : (0 : Int) ≤ (k : Int) + 1 := by omega
  have h4 : ¬ (c = k) := by omega
  have h5 : ((k : Int) + 1).toNat = k + 1 := by omega
  have h6 : (k : Int) ≤ 6 := by omega
  have hwk : IntKind.i64.wrap ((k : Int) + 1) = (k : Int) + 1 := IntWalk.i64_in _ (by omega)
  have h7 : (k : Int) + 1 ≤ (k : Int) + 1 := Int.le_refl _
  have h8 : k + 1 - k = 1 := by omega
  have h9 : ¬ (k + 1 = k) := by omega
  obtain ⟨L, hL⟩ : ∃ L, ps.length = L := ⟨_, rfl⟩
  rw [hL]
  have HB := Lib.hid (below_new w (.cells #[.int .i64 t, .int .i64 p, .slice (some ⟨b, off, none⟩) L c] 38))
  clear hcell hx hk hl hc hL
  go_enter Try.func71, Try.ntmps71
  go_wp2_with fail
  go_ret
  exact ⟨_, rfl, HX.out _ HB.out, HB.out⟩

/-- How many fit the first 0, 1, .., j - 1 clues. -/
def lfK (t p : Int) (ps : List Pt) (j : Nat) : List Int := (List.range j).map fun k => ((solA t p (ps.take k)).length : Int)
def lfR (t p : Int) (ps : List Pt) : List Int := if pzB t p ps = true then lfK t p ps (ps.length + 1) else []
theorem lfK_length (t p : Int) (ps : List Pt) (j : Nat) : (lfK t p ps j).length = j := by simp [lfK]
theorem lfK_succ (t p : Int) (ps : List Pt) (j : Nat) : lfK t p ps (j + 1) = lfK t p ps j ++ [((solA t p (ps.take j)).length : Int)] := by simp [lfK, List.range_succ]
theorem lfK_at (t p : Int) (ps : List Pt) {j J : Nat} (h : j < J) : (lfK t p ps J).getD j 0 = ((solA t p (ps.take j)).length : Int) := by
  simp [lfK, List.getD_eq_getElem?_getD, h]
theorem lfR_len (t p : Int) (ps : List Pt) : (lfR t p ps).length ≤ 1048576 := by
  unfold lfR
  split
  · rename_i h
    have := (pzB_iff.1 h).2.1
    rw [lfK_length]; omega
  · simp
theorem all_take {f : Pt → Bool} {ps : List Pt} (h : ps.all f = true) (k : Nat) : (ps.take k).all f = true := by
  rw [List.all_eq_true] at h ⊢
  exact fun x hx => h x (List.mem_of_mem_take hx)

set_option maxRecDepth 100000 in
set_option maxHeartbeats 8000000 in
theorem sLeftByClues (t p : Int) (ps : List Pt) (v : Value) (w : World) (hl : ps.length ≤ 1048576) (h : PuzIn w v t p ps) :
    Calls Try.prog 45 #[v] w (RetRow (lfR t p ps) (pzB t p ps) w) := by
  obtain ⟨i0, hi, hi0, hi1, hi2⟩ := info_parts info3
  have HG := Lib.hid (fun W (hb : Below w.heap.size w W) => pzGood_any t p ps v W hl (h.kept hb))
  obtain ⟨a, c, rfl, hcap, hx⟩ := h.cl
  clear h
  obtain ⟨K, hK⟩ : ∃ K, ps.length = K := ⟨_, rfl⟩
  have HB := Lib.hid (below_new w (.cells #[.int .i64 t, .int .i64 p, .slice a K c] 38))
  have B := Lib.hid (Bz.new w t p (.slice a K c) 38)
  cases hg : pzB t p ps
  case false =>
    have HS : Hid (lfR t p ps = []) := Lib.hid (by rw [lfR, hg]; rfl)
    rw [hg] at HG
    rw [HS.out]
    rw [hK] at HG ⊢
    clear hx hl hg hcap hK
    go_enter Try.func45, Try.ntmps45
    go_wp2_with fail
    refine (HG.out _ HB.out).mono ?_
    rintro e w1 ⟨rfl, hb1⟩
    have HB1 := Lib.hid (HB.out.trans (hb1.mono HB.out.size))
    clear hb1
    go_wp2_with fail
    go_ret2
    exact ⟨_, rfl, rowAt_nil _ _, HB1.out⟩
  case true =>
    have HS : Hid (lfR t p ps = lfK t p ps (K + 1)) := Lib.hid (by rw [lfR, if_pos hg, hK])
    obtain ⟨g1, g2, g3⟩ := pzB_iff.1 hg
    rw [hg] at HG
    rw [HS.out]
    have HAT := Lib.hid (fun j J (h : j < J) => lfK_at t p ps h)
    have HA : Hid (∀ W j, Below w.heap.size w W → j ≤ K → Calls Try.prog 62 #[.agg #[.int .i64 t, .int .i64 p], .slice a j c] W (RetNew (solA t p (ps.take j)) W)) := Lib.hid (fun W j hb hj => by
      have := pzAll_any t p (ps.take j) a c W g1 (all_take g3 j) (by rw [List.length_take]; omega) ((hx.keep hb).take j)
      rw [List.length_take, Nat.min_eq_left (by omega)] at this
      exact this)
    have HSU := Lib.hid (fun j => lfK_succ t p ps j)
    have HSL := Lib.hid (fun j => solA_len t p (ps.take j))
    have HLN := Lib.hid (fun j => lfK_length t p ps j)
    have HZ : Hid (∀ W, IntsAt W (w.heap.size + 1) (.slice none 0 0) (lfK t p ps 0)) := Lib.hid (fun W => intsAt_nil _ _)
    have hKc : K ≤ c := by omega
    have hK6 : (K : Int) ≤ 6 := by omega
    rw [hK] at HG ⊢
    clear hx hl hg hcap hK g1 g2 g3
    go_enter Try.func45, Try.ntmps45
    go_wp2_with fail
    refine (HG.out _ HB.out).mono ?_
    rintro e w1 ⟨rfl, hb1⟩
    have HB1 := Lib.hid (HB.out.trans (hb1.mono HB.out.size))
    have B1 := Lib.hid (B.out.kept hb1)
    clear hb1
    go_wp2_with fail
    go_loopw [4, 5] (fun out x wr => ∃ j : Nat, j ≤ K + 1 ∧ x = .int .i64 j ∧ IntsAt wr (w.heap.size + 1) out (lfK t p ps j) ∧ Bz wr w.heap.size t p (.slice a K c) ∧ Below w.heap.size w wr) (fun _ x _ => K + 1 - (intOf x).toNat)
    case atStart => exact ⟨0, by omega, rfl, HZ.out _, B1.out, HB1.out⟩
    case round =>
      clear HZ HB1 B1
      obtain ⟨j, hj, rfl, hrow, hbz, hbel⟩ := hrel
      have HO := Lib.hid hrow
      have BR := Lib.hid hbz
      have HBR := Lib.hid hbel
      obtain ⟨⟨p0, p1, p2⟩, p3⟩ := hbz
      have hsz := hbel.size
      clear hrow hbel
      by_cases hlt : j ≤ K
      · have hle : (j : Int) ≤ (K : Int) := by omega
        have hjc : (j : Int) ≤ (c : Int) := by omega
        have hj0 : (0 : Int) ≤ (j : Int) := by omega
        have HAJ := Lib.hid (fun W hb => HA.out W j hb hlt)
        have HSJ := Lib.hid (HSU.out j)
        have hsl := HSL.out j
        have hln := HLN.out j
        generalize solA t p (ps.take j) = sl at HAJ HSJ hsl
        obtain ⟨l, hl'⟩ : ∃ l, l = lfK t p ps j := ⟨_, rfl⟩
        rw [← hl'] at HO HSJ hln
        have hj2 : l.length + 1 ≤ maxLen := by unfold maxLen; omega
        have hj3 : (l.length + 1) * 8 ≤ 140737488355328 := by omega
        have hb0 : w.heap.size + 1 ≤ wr.heap.size := p3
        obtain ⟨x, hxx⟩ : ∃ x : Int, x = (sl.length : Int) := ⟨_, rfl⟩
        have HXX := Lib.hid hxx
        clear hl' hsl hxx
        go_wp2_with fail
        go_region_held3 (fun w' => w'.cell? ⟨w.heap.size, 0, none⟩ = some (.int .i64 t) ∧ w'.cell? ⟨w.heap.size, 1, none⟩ = some (.int .i64 p) ∧ w'.cell? ⟨w.heap.size, 2, none⟩ = some (.slice a K c)) (go_keep)
          ((first
            | (go_at_call 62; refine (HAJ.out _ (by first | exact HBR.out | exact HBR.out.drew | exact HBR.out.drew.drew)).mono ?_; rintro e w2 ⟨v2, rfl, hr2, hb2⟩; obtain ⟨a2, c2, rfl⟩ := hr2.form; have HB2 : Hid (Below wr.heap.size wr w2) := Lib.hid (by first | exact hb2 | exact (Below.refl _ _).drew.trans hb2 | exact (Below.refl _ _).drew.drew.trans hb2); have HO2 : Hid (IntsAt w2 (w.heap.size + 1) _ l) := Lib.hid (ownsRow_kept HO.out HB2.out); obtain ⟨⟨s0, s1, s2⟩, s3⟩ := (BR.out.kept HB2.out); clear hr2 hb2)
            | (refine step_append_own rfl (.tmp 16) (.tmp 25) 46 rfl (w.heap.size + 1) 3 i0 (.int .i64 0) 1 8 Try.underlying46 hi hi0 hi1 hi2 rfl (by decide) u4 l.length (l.map (Value.int .i64)) (by simp [Act.eval]) (by first | exact (HO2.out.alloc _) | exact (HO2.out.alloc _).drew | exact (HO2.out.drew.alloc _) | exact (HO2.out.drew.alloc _).drew) ⟨w2.heap.size, 0, none⟩ 1 1 [.int .i64 (sl.length : Int)] (by simp [Act.eval]) rfl (fun j u hu => by first | exact new_cell _ _ _ hu | exact new_cell w2.drew _ _ hu) (by simp [Value.oneCell']) hj2 hj3 (by have := HB2.out.size; simp; omega) ?_; intro v5 w5 hown5 hgrow5; have HO5 : Hid (IntsAt w5 (w.heap.size + 1) v5 (lfK t p ps (j + 1))) := Lib.hid (by unfold IntsAt; rw [HSJ.out, List.map_append, List.length_append]; exact hown5); have HB5 : Hid (Below (w.heap.size + 1) wr w5) := Lib.hid ((by first | exact (HB2.out.mono hb0).trans ((below_new w2 _).mono (Nat.le_trans hb0 HB2.out.size)) | exact ((HB2.out.mono hb0).trans ((below_new w2 _).mono (Nat.le_trans hb0 HB2.out.size))).drew | exact (HB2.out.mono hb0).trans (((Below.refl _ _).drew.trans (below_new w2.drew _)).mono (Nat.le_trans hb0 HB2.out.size)) | exact ((HB2.out.mono hb0).trans (((Below.refl _ _).drew.trans (below_new w2.drew _)).mono (Nat.le_trans hb0 HB2.out.size))).drew : Below (w.heap.size + 1) wr _).grown hgrow5 (by have := HB2.out.size; simp; omega) (fun k e => (World.ownsRow.lt HO2.out k e).1)); have t0 := (HB5.out.cell (p := ⟨w.heap.size, 0, none⟩) (Nat.lt_succ_self _)).trans p0; have t1 := (HB5.out.cell (p := ⟨w.heap.size, 1, none⟩) (Nat.lt_succ_self _)).trans p1; have t2 := (HB5.out.cell (p := ⟨w.heap.size, 2, none⟩) (Nat.lt_succ_self _)).trans p2; clear hown5 hgrow5)))
        all_goals
          go_wp2_with fail
          exact ⟨⟨j + 1, by omega, by go_num, by first | exact HO5.out | exact HO5.out.drew, ⟨⟨t0, t1, t2⟩, Nat.lt_of_lt_of_le p3 HB5.out.size⟩, by first | exact HBR.out.trans (HB5.out.mono (Nat.le_succ _)) | exact (HBR.out.trans (HB5.out.mono (Nat.le_succ _))).drew⟩, by simp [intOf]; omega⟩
      · have HJ : Hid (j = K + 1) := Lib.hid (by omega)
        have hle : ¬ ((j : Int) ≤ (K : Int)) := by omega
        clear hlt hj
        go_wp2_with fail
        go_ret2
        have h := HO.out
        rw [HJ.out] at h
        exact ⟨_, rfl, h.rowAt.low (Nat.le_succ _), HBR.out⟩

set_option maxRecDepth 100000 in
set_option maxHeartbeats 8000000 in
theorem iLeftByClues (t p : Int) (ps : List Pt) (v : Value) (w : World) (hl : ps.length ≤ 1048576) (h : PuzIn w v t p ps) :
    Calls Try.prog 46 #[v] w (RetRow (lfR t p ps) (pzB t p ps) w) := by
  obtain ⟨i0, hi, hi0, hi1, hi2⟩ := info_parts info3
  have HG := Lib.hid (fun W (hb : Below w.heap.size w W) => isPuzzle_any t p ps v W hl (h.kept hb))
  obtain ⟨a, c, rfl, hcap, hx⟩ := h.cl
  clear h
  obtain ⟨K, hK⟩ : ∃ K, ps.length = K := ⟨_, rfl⟩
  have HB := Lib.hid (below_new w (.cells #[.int .i64 t, .int .i64 p, .slice a K c] 38))
  have B := Lib.hid (Bz.new w t p (.slice a K c) 38)
  cases hg : pzB t p ps
  case false =>
    have HS : Hid (lfR t p ps = []) := Lib.hid (by rw [lfR, hg]; rfl)
    rw [hg] at HG
    rw [HS.out]
    rw [hK] at HG ⊢
    clear hx hl hg hcap hK
    go_enter Try.func46, Try.ntmps46
    go_wp2_with fail
    refine (HG.out _ HB.out).mono ?_
    rintro e w1 ⟨rfl, hb1⟩
    have HB1 := Lib.hid (HB.out.trans (hb1.mono HB.out.size))
    clear hb1
    go_wp2_with fail
    go_ret2
    exact ⟨_, rfl, rowAt_nil _ _, HB1.out⟩
  case true =>
    have HS : Hid (lfR t p ps = lfK t p ps (K + 1)) := Lib.hid (by rw [lfR, if_pos hg, hK])
    obtain ⟨g1, g2, g3⟩ := pzB_iff.1 hg
    rw [hg] at HG
    rw [HS.out]
    have HAT := Lib.hid (fun j J (h : j < J) => lfK_at t p ps h)
    have HA : Hid (∀ W u j, Below w.heap.size w W → j ≤ K → Calls Try.prog 63 #[.agg #[.int .i64 t, .int .i64 p, u], .slice a j j] W (RetNew (solA t p (ps.take j)) W)) := Lib.hid (fun W u j hb hj => by
      have := fitting_any t p u (ps.take j) a j W (all_take g3 j) (by rw [List.length_take]; omega) ((hx.keep hb).take j)
      rw [List.length_take, Nat.min_eq_left (by omega)] at this
      exact this)
    have HFC := Lib.hid (fun W j (hj : j ≤ K) => firstClues_any t p a K c j W (by omega) hcap.2)
    have HSL := Lib.hid (fun j => solA_len t p (ps.take j))
    have HSZ := Lib.hid (lfK_length t p ps (K + 1))
    have HF := Lib.hid (cpF_full (lfK t p ps (K + 1)))
    have HSS := Lib.hid (fun j => cpF_set (lfK t p ps (K + 1)) j)
    have HZ := Lib.hid (cpF_zero (lfK t p ps (K + 1)))
    have HN := Lib.hid (cpF_length (lfK t p ps (K + 1)))
    rw [HSZ.out] at HF HZ HN
    have hK6 : (K : Int) ≤ 6 := by omega
    have hK7 : K ≤ 6 := by omega
    rw [hK] at HG ⊢
    clear hx hl hg hcap hK g1 g2 g3
    go_enter Try.func46, Try.ntmps46
    go_wp2_with fail
    refine (HG.out _ HB.out).mono ?_
    rintro e w1 ⟨rfl, hb1⟩
    have HB1 := Lib.hid (HB.out.trans (hb1.mono HB.out.size))
    have B1 := Lib.hid (B.out.kept hb1)
    obtain ⟨⟨p0, p1, p2⟩, p3⟩ := B1.out
    clear hb1
    go_wp2_with (at_make; refine wpList_make_full _ rfl _ _ 46 rfl w1.heap.size 3 i0 (.int .i64 0) 1 Try.underlying46 hi hi0 hi1 .i64 .i64 _ _ (K + 1) rfl rfl ?c0 ?c1 ?c2 ?c3 ?c4 ?_; rotate_right; intro w3 hown3 hgrow3)
    case c0 => simp
    case c1 => simp
    case c2 => rw [hi2]; omega
    case c3 => unfold maxLen; omega
    case c4 => exact Nat.le_refl _
    have hb13 : Below w1.heap.size w1 w3 := (Below.refl _ w1).grown hgrow3 (Nat.le_refl _) (fun k e => by simp at e)
    have HB3 := Lib.hid (HB1.out.trans (hb13.mono HB1.out.size))
    have B3 := Lib.hid (B1.out.kept hb13)
    have HO3 : Hid (w3.ownsRow w1.heap.size 3 1 (.slice (some ⟨w1.heap.size, 0, none⟩) (K + 1) (K + 1)) (K + 1) ((cpF (lfK t p ps (K + 1)) 0).map (Value.int .i64))) := Lib.hid (by
      rw [HZ.out, List.map_replicate]
      have := hown3
      rw [show (Value.int .i64 0).cells = #[Value.int .i64 0] from rfl, Nat.mul_one, toList_madeCells_one] at this
      simpa using this)
    have hm1 : ¬ (w1.heap.size = w.heap.size) := by omega
    have hm2 : ¬ (w.heap.size = w1.heap.size) := by omega
    clear hown3 hgrow3 hb13 p0 p1 p2
    go_loopw [5, 16] (fun _ i wr => ∃ j : Nat, j ≤ K + 1 ∧ i = .int .i64 j ∧ wr.ownsRow w1.heap.size 3 1 (.slice (some ⟨w1.heap.size, 0, none⟩) (K + 1) (K + 1)) (K + 1) ((cpF (lfK t p ps (K + 1)) j).map (Value.int .i64)) ∧ Bz wr w.heap.size t p (.slice a K c) ∧ Below w.heap.size w wr) (fun _ i _ => K + 1 - (intOf i).toNat)
    case atStart => exact ⟨0, by omega, rfl, HO3.out, B3.out, HB3.out⟩
    case round =>
      clear HO3 B3 HB3
      obtain ⟨j, hj, rfl, hown, hbz, hbr⟩ := hrel
      have HO := Lib.hid hown
      have BR := Lib.hid hbz
      have HBR := Lib.hid hbr
      by_cases hlt : j < K + 1
      · have hjK : (j : Int) < (K : Int) + 1 := by omega
        have hay := HAT.out j (K + 1) hlt
        have HAJ := Lib.hid (fun W u hb => HA.out W u j hb (by omega))
        have HFJ := Lib.hid (fun W => HFC.out W j (by omega))
        have HSJ := Lib.hid (HSS.out j)
        rw [hay] at HSJ
        generalize solA t p (ps.take j) = sl at HAJ HSJ hay
        obtain ⟨u, qc⟩ : ∃ u, wr.cell? ⟨w1.heap.size, j, none⟩ = some (.int .i64 u) := by
          refine ⟨(cpF (lfK t p ps (K + 1)) j).getD j 0, ?_⟩
          rw [World.ownsRow.cellAt hown j (by omega), List.getElem?_map, List.getElem?_eq_getElem (by rw [HN.out]; exact hlt)]
          simp [List.getD, HN.out, hlt]
        have qf : wr.frozen? ⟨w1.heap.size, j, none⟩ = false := World.ownsRow.frozenAt hown j
        obtain ⟨⟨p0, p1, p2⟩, p3'⟩ := hbz
        have hgr : w1.heap.size < wr.heap.size := (World.ownsRow.lt hown _ rfl).2
        clear hown hbr hay
        go_wp2_with fail
        go_region_held3 (fun w' => w'.cell? ⟨w.heap.size, 0, none⟩ = some (.int .i64 t) ∧ w'.cell? ⟨w.heap.size, 1, none⟩ = some (.int .i64 p) ∧ w'.cell? ⟨w.heap.size, 2, none⟩ = some (.slice a K c)) (go_keep)
          ((first
            | (go_at_call 70; refine (HFJ.out _).mono ?_; rintro e w2 ⟨rfl, hb2⟩; have HB2 : Hid (Below wr.heap.size wr w2) := Lib.hid (by first | exact hb2 | exact (Below.refl _ _).drew.trans hb2 | exact (Below.refl _ _).drew.drew.trans hb2); obtain ⟨⟨s0, s1, s2⟩, s3⟩ := (BR.out.kept HB2.out); clear hb2)
            | (go_at_call 63; refine (HAJ.out _ _ (HBR.out.trans (by first | exact HB2.out.mono HBR.out.size | exact HB2.out.drew.mono HBR.out.size | exact HB2.out.drew.drew.mono HBR.out.size))).mono ?_; rintro e w4 ⟨v4, rfl, hr4, hb4⟩; obtain ⟨a4, c4, rfl⟩ := hr4.form; have HB4 : Hid (Below wr.heap.size wr w4) := Lib.hid (HB2.out.trans (by first | exact hb4.mono HB2.out.size | exact ((Below.refl _ _).drew.trans hb4).mono HB2.out.size | exact ((Below.refl _ _).drew.drew.trans hb4).mono HB2.out.size)); have B4 := Lib.hid (BR.out.kept HB4.out); obtain ⟨⟨y0, y1, y2⟩, y3⟩ := B4.out; have HO4 := Lib.hid (ownsRow_kept HO.out HB4.out); have qc4 := (HB4.out.cell (p := ⟨w1.heap.size, j, none⟩) hgr).trans qc; have qf4 := (HB4.out.frozen (p := ⟨w1.heap.size, j, none⟩) hgr).trans qf; clear hr4 hb4)))
        all_goals
          go_wp2_with fail
          have hst := World.ownsRow.stored HO4.out j (.int .i64 (sl.length : Int))
          rw [HSJ.out] at hst
          exact ⟨⟨j + 1, hlt, by go_num, by first | exact hst.1 | exact hst.1.drew, ⟨⟨(World.cell?_setCell_other _ _ _ _ (by first | (simp; done) | (simp; omega))).trans y0, (World.cell?_setCell_other _ _ _ _ (by first | (simp; done) | (simp; omega))).trans y1, (World.cell?_setCell_other _ _ _ _ (by first | (simp; done) | (simp; omega))).trans y2⟩, by simpa using y3⟩, by first | exact (HBR.out.trans (HB4.out.mono HBR.out.size)).setCell (p := ⟨w1.heap.size, j, none⟩) HB1.out.size _ | exact ((HBR.out.trans (HB4.out.mono HBR.out.size)).setCell (p := ⟨w1.heap.size, j, none⟩) HB1.out.size _).drew | exact (HBR.out.trans (HB4.out.mono HBR.out.size)).drew.setCell (p := ⟨w1.heap.size, j, none⟩) HB1.out.size _⟩, by simp [intOf]; omega⟩
      · have HJ : Hid (j = K + 1) := Lib.hid (by omega)
        have hjj : ¬ ((j : Int) < (K : Int) + 1) := by omega
        clear hown hbr hbz hlt hj
        go_wp2_with fail
        go_ret2
        have h2 := HO.out
        rw [HJ.out, HF.out] at h2
        refine ⟨_, rfl, IntsAt.rowAt (B := w.heap.size) ?_, HBR.out⟩
        unfold IntsAt
        rw [HSZ.out]
        exact ownsRow_base h2 HB1.out.size
end Go.Proofs.Ytheailbbnmblnaa
