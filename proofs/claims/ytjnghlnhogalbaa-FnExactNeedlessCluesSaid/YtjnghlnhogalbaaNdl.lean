/-
  'NeedlessClues' of both.
-/
import Derived.Test.YtjnghlnhogalbaaPzK
import Derived.Test.YtjnghlnhogalbaaCon
import Derived.Test.YtjnghlnhogalbaaSv
import Derived.Deep.CutRange
namespace Go.Proofs.Ytjnghlnhogalbaa
open Go.RowKit
set_option linter.unusedVariables false

/-- Is a clue needless? -/
def nlA (t p : Int) (ps : List Pt) (k : Int) : Bool := decide ((solA t p (clW ps k.toNat)).length = (solA t p ps).length)
def nlK (t p : Int) (ps : List Pt) (j : Nat) : List Int := (upL 0 j).filter (nlA t p ps)
def nlR (t p : Int) (ps : List Pt) : List Int := if pzB t p ps = true then nlK t p ps ps.length else []
theorem nlK_len (t p : Int) (ps : List Pt) (j : Nat) : (nlK t p ps j).length ≤ j := by
  unfold nlK
  exact Nat.le_trans (List.length_filter_le _ _) (by rw [upL_length]; exact Nat.le_refl _)
theorem nlR_len (t p : Int) (ps : List Pt) : (nlR t p ps).length ≤ 1048576 := by
  unfold nlR
  split
  · rename_i h
    have := (pzB_iff.1 h).2.1
    have := nlK_len t p ps ps.length
    omega
  · simp
theorem nlK_yes {t p : Int} {ps : List Pt} {j : Nat} (h : nlA t p ps (j : Int) = true) : nlK t p ps (j + 1) = nlK t p ps j ++ [(j : Int)] := by
  unfold nlK
  rw [upL_succ, List.filter_append, Int.zero_add]
  simp only [List.filter_cons, h, if_true, List.filter_nil]
theorem nlK_no {t p : Int} {ps : List Pt} {j : Nat} (h : nlA t p ps (j : Int) = false) : nlK t p ps (j + 1) = nlK t p ps j := by
  unfold nlK
  rw [upL_succ, List.filter_append, Int.zero_add]
  simp only [List.filter_cons, h, Bool.false_eq_true, if_false, List.filter_nil, List.append_nil]
theorem nlA_eq (t p : Int) (ps : List Pt) (j : Nat) : nlA t p ps (j : Int) = (((solA t p (clW ps j)).length : Int) == ((solA t p ps).length : Int)) := by
  unfold nlA
  rw [Int.toNat_natCast, Bool.eq_iff_iff]
  simp
  omega

set_option maxRecDepth 100000 in
set_option maxHeartbeats 8000000 in
theorem sNeedlessClues (t p : Int) (ps : List Pt) (v : Value) (w : World) (hl : ps.length ≤ 1048576) (h : PuzIn w v t p ps) :
    Calls Try.prog 9 #[v] w (RetRow (nlR t p ps) (pzB t p ps) w) := by
  obtain ⟨i0, hi, hi0, hi1, hi2⟩ := info_parts info3
  have HG := Lib.hid (fun W (hb : Below w.heap.size w W) => pzGood_any t p ps v W hl (h.kept hb))
  obtain ⟨a, c, rfl, hcap, hx⟩ := h.cl
  clear h
  obtain ⟨K, hK⟩ : ∃ K, ps.length = K := ⟨_, rfl⟩
  have HB := Lib.hid (below_new w (.cells #[.int .i64 t, .int .i64 p, .slice a K c] 34))
  have B := Lib.hid (Bz.new w t p (.slice a K c) 34)
  cases hg : pzB t p ps
  case false =>
    have HS : Hid (nlR t p ps = []) := Lib.hid (by rw [nlR, hg]; rfl)
    rw [hg] at HG
    rw [HS.out]
    rw [hK] at HG ⊢
    clear hx hl hg hcap hK
    go_enter Try.func9, Try.ntmps9
    go_wp2_with fail
    refine (HG.out _ HB.out).mono ?_
    rintro e w1 ⟨rfl, hb1⟩
    have HB1 := Lib.hid (HB.out.trans (hb1.mono HB.out.size))
    clear hb1
    go_wp2_with fail
    go_ret2
    exact ⟨_, rfl, rowAt_nil _ _, HB1.out⟩
  case true =>
    have HS : Hid (nlR t p ps = nlK t p ps K) := Lib.hid (by rw [nlR, if_pos hg, hK])
    obtain ⟨g1, g2, g3⟩ := pzB_iff.1 hg
    rw [hg] at HG
    rw [HS.out]
    have HALL := Lib.hid (fun W (hb : Below w.heap.size w W) => pzAll_any t p ps a c W g1 g3 g2 (hx.keep hb))
    have HWO := Lib.hid (fun W j (hb : Below w.heap.size w W) (hj : j < ps.length) => pzWithout_any ps j a c W g2 hj hcap (hx.keep hb))
    have HA := Lib.hid (fun W j a' c' (hj : j < ps.length) (hc : ClIn W a' (clW ps j)) => pzAll_any t p (clW ps j) a' c' W g1 (clW_all j g3) (by rw [clW_length hj]; omega) hc)
    have HEQ := Lib.hid (fun j => nlA_eq t p ps j)
    have HYES := Lib.hid (fun j => nlK_yes (t := t) (p := p) (ps := ps) (j := j))
    have HNO := Lib.hid (fun j => nlK_no (t := t) (p := p) (ps := ps) (j := j))
    have HLN := Lib.hid (fun j => nlK_len t p ps j)
    have HZ : Hid (∀ W, IntsAt W (w.heap.size + 1) (.slice none 0 0) (nlK t p ps 0)) := Lib.hid (fun W => intsAt_nil _ _)
    have hK6 : (K : Int) ≤ 6 := by omega
    have hK7 : K ≤ 6 := by omega
    obtain ⟨cnt, hcnt⟩ : ∃ cnt, cnt = (solA t p ps).length := ⟨_, rfl⟩
    rw [← hcnt] at HEQ
    have HCN := Lib.hid hcnt
    rw [hK] at HG HALL HWO HA ⊢
    clear hx hl hg hcap hK g1 g2 g3 hcnt
    go_enter Try.func9, Try.ntmps9
    go_wp2_with fail
    refine (HG.out _ HB.out).mono ?_
    rintro e w1 ⟨rfl, hb1⟩
    have HB1 := Lib.hid (HB.out.trans (hb1.mono HB.out.size))
    have B1 := Lib.hid (B.out.kept hb1)
    clear hb1
    obtain ⟨⟨p0, p1, p2⟩, p3⟩ := B1.out
    go_wp2_with fail
    refine (HALL.out _ HB1.out).mono ?_
    rintro e w2 ⟨v2, rfl, hr2, hb2⟩
    obtain ⟨a2, c2, rfl⟩ := hr2.form
    rw [← HCN.out]
    have HB2 := Lib.hid (HB1.out.trans (hb2.mono HB1.out.size))
    have B2 := Lib.hid (B1.out.kept hb2)
    clear hb2 hr2 p0 p1 p2 p3
    obtain ⟨⟨p0, p1, p2⟩, p3⟩ := B2.out
    go_wp2_with fail
    clear p0 p1 p2 p3
    go_loopw [4, 19] (fun out x wr => ∃ j : Nat, j ≤ K ∧ x = .int .i64 j ∧ IntsAt wr (w.heap.size + 1) out (nlK t p ps j) ∧ Bz wr w.heap.size t p (.slice a K c) ∧ Below w.heap.size w wr) (fun _ x _ => K - (intOf x).toNat)
    case atStart => exact ⟨0, by omega, rfl, HZ.out _, B2.out, HB2.out⟩
    case round =>
      clear HZ HB1 B1 HB2 B2
      obtain ⟨j, hj, rfl, hrow, hbz, hbel⟩ := hrel
      have HO := Lib.hid hrow
      have BR := Lib.hid hbz
      have HBR := Lib.hid hbel
      obtain ⟨⟨p0, p1, p2⟩, p3⟩ := hbz
      have hb0 : w.heap.size + 1 ≤ wr.heap.size := p3
      clear hrow hbel
      by_cases hlt : j < K
      · have hle : (j : Int) < (K : Int) := by omega
        have hj0 : (0 : Int) ≤ (j : Int) := by omega
        have HWJ := Lib.hid (fun W hb => HWO.out W j hb hlt)
        have HAJ := Lib.hid (fun W a' c' hc => HA.out W j a' c' hlt hc)
        have HEJ := Lib.hid (HEQ.out j)
        have HYJ := Lib.hid (HYES.out j)
        have HNJ := Lib.hid (HNO.out j)
        have hln := HLN.out j
        generalize clW ps j = cw at HWJ HAJ HEJ
        generalize solA t p cw = sl at HAJ HEJ
        obtain ⟨l, hl'⟩ : ∃ l, l = nlK t p ps j := ⟨_, rfl⟩
        rw [← hl'] at HO HYJ HNJ hln
        have hj2 : l.length + 1 ≤ maxLen := by unfold maxLen; omega
        have hj3 : (l.length + 1) * 8 ≤ 140737488355328 := by omega
        clear hl'
        go_upto_region 8 with fail
        go_cut [31] from 22 to 31 (fun s31 wx => s31 = .bool ((sl.length : Int) == (cnt : Int)) ∧ Hid (Below wr.heap.size wr wx))
        case first =>
          go_region_held3 (fun w' => w'.cell? ⟨w.heap.size, 0, none⟩ = some (.int .i64 t) ∧ w'.cell? ⟨w.heap.size, 1, none⟩ = some (.int .i64 p) ∧ w'.cell? ⟨w.heap.size, 2, none⟩ = some (.slice a K c)) (go_keep)
            ((first
              | (go_at_call 38; refine (HWJ.out _ (by first | exact HBR.out | exact HBR.out.drew | exact HBR.out.drew.drew)).mono ?_; rintro e w2 ⟨v2, rfl, hr2, hb2⟩; obtain ⟨a2, c2, rfl, _, hc2⟩ := hr2.cl; have HC2 := Lib.hid hc2; have HB2 : Hid (Below wr.heap.size wr w2) := Lib.hid (by first | exact hb2 | exact (Below.refl _ _).drew.trans hb2 | exact (Below.refl _ _).drew.drew.trans hb2); obtain ⟨⟨s0, s1, s2⟩, s3⟩ := (BR.out.kept HB2.out); clear hr2 hb2 hc2)
              | (go_at_call 37; refine (HAJ.out _ _ _ (by first | exact HC2.out | exact HC2.out.keep (Below.refl _ _).drew | exact HC2.out.keep (Below.refl _ _).drew.drew)).mono ?_; rintro e w4 ⟨v4, rfl, hr4, hb4⟩; obtain ⟨a4, c4, rfl⟩ := hr4.form; have HB4 : Hid (Below wr.heap.size wr w4) := Lib.hid (HB2.out.trans (by first | exact hb4.mono HB2.out.size | exact ((Below.refl _ _).drew.trans hb4).mono HB2.out.size | exact ((Below.refl _ _).drew.drew.trans hb4).mono HB2.out.size)); obtain ⟨⟨y0, y1, y2⟩, y3⟩ := (BR.out.kept HB4.out); clear hr4 hb4)))
          all_goals
            go_wp2_with fail
            go_meet
            case rel => exact ⟨rfl, Lib.hid (by first | exact HB4.out | exact HB4.out.drew)⟩
        case rest =>
          obtain ⟨rfl, HBC⟩ := hcut
          have BC := Lib.hid (BR.out.kept HBC.out)
          have HBCC := Lib.hid (HBR.out.trans (HBC.out.mono HBR.out.size))
          have HOC : Hid (IntsAt wc (w.heap.size + 1) u4 l) := Lib.hid (ownsRow_kept HO.out HBC.out)
          have hbc : w.heap.size + 1 ≤ wc.heap.size := BC.out.2
          clear p0 p1 p2 p3
          rw [← HEJ.out]
          cases hna : nlA t p ps (j : Int)
          · have HN3 := Lib.hid (HNJ.out hna)
            clear hna HYJ HNJ
            go_wp2_with fail
            exact ⟨⟨j + 1, hlt, by go_num, by rw [HN3.out]; exact HOC.out, BC.out, HBCC.out⟩, by simp [intOf]; omega⟩
          · have HY3 := Lib.hid (HYJ.out hna)
            clear hna HYJ HNJ
            go_wp2_with (at_builtin; refine wpList_append_own _ rfl _ _ 28 rfl (w.heap.size + 1) 3 i0 (.int .i64 0) 1 8 Try.underlying28 hi hi0 hi1 hi2 rfl (by decide) _ _ _ rfl (HOC.out.alloc _) ⟨wc.heap.size, 0, none⟩ 1 1 [.int .i64 (j : Int)] rfl rfl ?_ ?_ ?_ ?_ ?_ ?_; rotate_right; intro v' w3 hown hgrow _)
            · have hbg : Below (w.heap.size + 1) wc w3 := ((Below.refl (w.heap.size + 1) wc).alloc hbc _).grown hgrow (by simp; omega) (fun k e => (HOC.out.lt k e).1)
              refine ⟨⟨j + 1, hlt, by go_num, ?_, ⟨⟨(hbg.cell (p := ⟨w.heap.size, 0, none⟩) (Nat.lt_succ_self _)).trans BC.out.1.1, (hbg.cell (p := ⟨w.heap.size, 1, none⟩) (Nat.lt_succ_self _)).trans BC.out.1.2.1, (hbg.cell (p := ⟨w.heap.size, 2, none⟩) (Nat.lt_succ_self _)).trans BC.out.1.2.2⟩, Nat.lt_of_lt_of_le BC.out.2 hbg.size⟩, HBCC.out.trans (hbg.mono (by omega))⟩, by simp [intOf]; omega⟩
              unfold IntsAt
              rw [HY3.out, List.map_append, List.length_append]
              exact hown
            all_goals first | exact fun j u hu => new_cell _ _ _ hu | exact hj2 | omega | (simp [Value.oneCell']; done) | (simp; omega)
      · have HJ : Hid (j = K) := Lib.hid (by omega)
        have hle : ¬ ((j : Int) < (K : Int)) := by omega
        clear hlt hj
        go_wp2_with fail
        go_ret2
        have h := HO.out
        rw [HJ.out] at h
        exact ⟨_, rfl, h.rowAt.low (Nat.le_succ _), HBR.out⟩

set_option maxRecDepth 100000 in
set_option maxHeartbeats 4000000 in
theorem needless1_any (t p : Int) (ps : List Pt) (a : Option Addr) (c j bp bc : Nat) (w : World) (g2 : ps.length ≤ 6) (g3 : ps.all clB = true) (hj : j < ps.length) (hcap : ps.length ≤ c ∧ c ≤ maxLen) (hx : ClIn w a ps)
    (hb : Bz w bp t p (.slice a ps.length c)) (hbc : w.cell? ⟨bc, 0, none⟩ = some (.int .i64 ((solA t p ps).length : Nat)) ∧ bc < w.heap.size) :
    Calls Try.prog 41 #[.int .i64 (j : Int), .pointer (some ⟨bp, 0, none⟩), .pointer (some ⟨bc, 0, none⟩)] w fun e w' => e = .returned (.bool (nlA t p ps (j : Int))) ∧ Below w.heap.size w w' := by
  have HWJ := Lib.hid (fun W (hbw : Below w.heap.size w W) => cluesWithout_any t p ps j a c W g2 hj hcap (hx.keep hbw))
  have HAJ := Lib.hid (fun W u a' c' (hc : ClIn W a' (clW ps j)) => fitting_any t p u (clW ps j) a' c' W (clW_all j g3) (by rw [clW_length hj]; omega) hc)
  have HEJ := Lib.hid (nlA_eq t p ps j)
  obtain ⟨cnt, hcnt⟩ : ∃ cnt, cnt = (solA t p ps).length := ⟨_, rfl⟩
  rw [← hcnt] at HEJ hbc
  obtain ⟨K, hK⟩ : ∃ K, ps.length = K := ⟨_, rfl⟩
  rw [hK] at HWJ hb
  generalize clW ps j = cw at HWJ HAJ HEJ
  generalize solA t p cw = sl at HAJ HEJ
  have BR := Lib.hid hb
  have HBR : Hid (Below w.heap.size w w) := Lib.hid (Below.refl _ _)
  have HBC := Lib.hid hbc
  obtain ⟨⟨p0, p1, p2⟩, p3⟩ := hb
  obtain ⟨q0, q1⟩ := hbc
  clear hcnt hK hx hcap hj g2 g3
  go_enter Try.func41, Try.ntmps41
  go_wp2_with fail
  go_region_held3 (fun w' => (w'.cell? ⟨bp, 0, none⟩ = some (.int .i64 t) ∧ w'.cell? ⟨bp, 1, none⟩ = some (.int .i64 p) ∧ w'.cell? ⟨bp, 2, none⟩ = some (.slice a K c)) ∧ w'.cell? ⟨bc, 0, none⟩ = some (.int .i64 (cnt : Nat))) (go_keep)
    ((first
      | (go_at_call 43; refine (HWJ.out _ (by first | exact HBR.out | exact HBR.out.drew | exact HBR.out.drew.drew)).mono ?_; rintro e w2 ⟨v2, rfl, hr2, hb2⟩; obtain ⟨a2, c2, rfl, _, hc2⟩ := hr2.cl; have HC2 := Lib.hid hc2; have HB2 : Hid (Below w.heap.size w w2) := Lib.hid (by first | exact hb2 | exact (Below.refl _ _).drew.trans hb2 | exact (Below.refl _ _).drew.drew.trans hb2); obtain ⟨⟨s0, s1, s2⟩, s3⟩ := (BR.out.kept HB2.out); have s4 := (HB2.out.cell (p := ⟨bc, 0, none⟩) q1).trans HBC.out.1; clear hr2 hb2 hc2)
      | (go_at_call 42; refine (HAJ.out _ _ _ _ (by first | exact HC2.out | exact HC2.out.keep (Below.refl _ _).drew | exact HC2.out.keep (Below.refl _ _).drew.drew)).mono ?_; rintro e w4 ⟨v4, rfl, hr4, hb4⟩; obtain ⟨a4, c4, rfl⟩ := hr4.form; have HB4 : Hid (Below w.heap.size w w4) := Lib.hid (HB2.out.trans (by first | exact hb4.mono HB2.out.size | exact ((Below.refl _ _).drew.trans hb4).mono HB2.out.size | exact ((Below.refl _ _).drew.drew.trans hb4).mono HB2.out.size)); obtain ⟨⟨y0, y1, y2⟩, y3⟩ := (BR.out.kept HB4.out); have y4 := (HB4.out.cell (p := ⟨bc, 0, none⟩) q1).trans HBC.out.1; clear hr4 hb4)))
  all_goals
    go_wp2_with fail
    go_ret
    exact ⟨ret_bool HEJ.out.symm, by first | exact HB4.out | exact HB4.out.drew⟩

set_option maxRecDepth 100000 in
set_option maxHeartbeats 8000000 in
theorem iNeedlessClues (t p : Int) (ps : List Pt) (v : Value) (w : World) (hl : ps.length ≤ 1048576) (h : PuzIn w v t p ps) :
    Calls Try.prog 11 #[v] w (RetRow (nlR t p ps) (pzB t p ps) w) := by
  have hmf : ∀ (fn : Fn) (first cap : Array Value) (w : World), (Instr.makeFunc fn first cap).run Try.prog w = .ok (.func fn first cap) w := fun _ _ _ _ => rfl
  have HCS := Lib.hid (fun W (hb : Below w.heap.size w W) => iCountSolutions t p ps v W hl (h.kept hb))
  obtain ⟨a, c, rfl, hcap, hx⟩ := h.cl
  clear h
  obtain ⟨K, hK⟩ : ∃ K, ps.length = K := ⟨_, rfl⟩
  have HB := Lib.hid (below_new w (.cells #[.int .i64 t, .int .i64 p, .slice a K c] 34))
  have B := Lib.hid (Bz.new w t p (.slice a K c) 34)
  cases hg : pzB t p ps
  case false =>
    have HS : Hid (nlR t p ps = []) := Lib.hid (by rw [nlR, hg]; rfl)
    rw [hg] at HCS
    rw [HS.out]
    rw [hK] at HCS ⊢
    clear hx hl hg hcap hK
    go_enter Try.func11, Try.ntmps11
    go_wp2_with fail
    refine (HCS.out _ HB.out).mono ?_
    rintro e w1 ⟨rfl, hb1⟩
    have HB1 := Lib.hid (HB.out.trans (hb1.mono HB.out.size))
    have hle := HB1.out.size
    clear hb1
    go_wp2_with fail
    go_ret2
    exact ⟨_, rfl, rowAt_nil _ _, HB1.out.alloc hle _⟩
  case true =>
    have HS : Hid (nlR t p ps = (upL 0 K).filter (nlA t p ps)) := Lib.hid (by rw [nlR, if_pos hg, hK]; rfl)
    obtain ⟨g1, g2, g3⟩ := pzB_iff.1 hg
    rw [hg] at HCS
    rw [solR_yes hg] at HCS
    rw [HS.out]
    have HN1 := Lib.hid (fun W j bc (hj : j < ps.length) (hb : Below w.heap.size w W) hbz hbc => needless1_any t p ps a c j w.heap.size bc W g2 g3 hj hcap (hx.keep hb) hbz hbc)
    have hK6 : (K : Int) ≤ 6 := by omega
    have hK7 : K ≤ 6 := by omega
    have hwk : IntKind.i64.wrap ((K : Int) - 1) = (K : Int) - 1 := IntWalk.i64_in _ (by omega)
    rw [hK] at HCS HN1 ⊢
    clear hx hl hg hcap hK g1 g2 g3
    obtain ⟨cnt, hcnt⟩ : ∃ cnt, cnt = (solA t p ps).length := ⟨_, rfl⟩
    rw [← hcnt] at HCS HN1
    clear hcnt
    go_enter Try.func11, Try.ntmps11
    go_wp2_with fail
    refine (HCS.out _ HB.out).mono ?_
    rintro e w1 ⟨rfl, hb1⟩
    have HB1 := Lib.hid (HB.out.trans (hb1.mono HB.out.size))
    have B1 := Lib.hid (B.out.kept hb1)
    have B1' := Lib.hid (B1.out.grow (.cells #[.int .i64 (cnt : Nat)] 3))
    have HB1' := Lib.hid (HB1.out.trans ((below_new w1 (.cells #[.int .i64 (cnt : Nat)] 3)).mono HB1.out.size))
    have HC1 : Hid ((w1.alloc (.cells #[.int .i64 (cnt : Nat)] 3)).cell? ⟨w1.heap.size, 0, none⟩ = some (.int .i64 (cnt : Nat)) ∧ w1.heap.size < (w1.alloc (.cells #[.int .i64 (cnt : Nat)] 3)).heap.size) := Lib.hid ⟨by go_simp, by simp⟩
    obtain ⟨⟨p0, p1, p2⟩, p3⟩ := B1.out
    have hn1 : ¬ (w1.heap.size = w.heap.size) := by omega
    have hn2 : ¬ (w.heap.size = w1.heap.size) := by omega
    clear hb1
    go_wp2_with fail
    refine (countUp_any 0 K ((K : Int) - 1) _ (by omega) (by omega) (by omega) (by omega)).mono ?_
    rintro e w2 ⟨v2, rfl, hr2, hb2⟩
    have B2 := Lib.hid (B1'.out.kept hb2)
    have HB2 := Lib.hid (HB1'.out.trans (hb2.mono HB1'.out.size))
    have HC2 : Hid (w2.cell? ⟨w1.heap.size, 0, none⟩ = some (.int .i64 (cnt : Nat)) ∧ w1.heap.size < w2.heap.size) := Lib.hid ⟨(hb2.cell (p := ⟨w1.heap.size, 0, none⟩) HC1.out.2).trans HC1.out.1, Nat.lt_of_lt_of_le HC1.out.2 hb2.size⟩
    have HSV : Hid (Calls Try.prog 44 #[v2, .func (.func 41) #[] #[.pointer (some ⟨w.heap.size, 0, none⟩), .pointer (some ⟨w1.heap.size, 0, none⟩)]] w2 fun e w' => ∃ v', e = .returned v' ∧ IntsAt w' w2.heap.size v' ((upL 0 K).filter (nlA t p ps)) ∧ Below w2.heap.size w2 w' ∧ Touch 0 0 w2 w') := Lib.hid (by
      refine sieve_any _ #[.pointer (some ⟨w.heap.size, 0, none⟩), .pointer (some ⟨w1.heap.size, 0, none⟩)] (upL 0 K) (nlA t p ps) (fun _ W => Below w2.heap.size w2 W) 0 0 v2 w2 _ (enters_of Try.func41 (by kernel_rfl) rfl) (by rw [upL_length]; omega) hr2 (Nat.zero_le _) (Nat.zero_le _) (Nat.le_refl _) ?_ (Below.refl _ _) ?_
      · rintro j W W' h2 hs hb
        exact h2.trans hb
      · rintro j W hj h2 hs
        rw [upL_length] at hj
        rw [upL_at _ hj, Int.zero_add]
        refine (HN1.out W j w1.heap.size hj (HB2.out.trans (h2.mono HB2.out.size)) (B2.out.kept h2) ⟨(h2.cell (p := ⟨w1.heap.size, 0, none⟩) HC2.out.2).trans HC2.out.1, Nat.lt_of_lt_of_le HC2.out.2 h2.size⟩).mono ?_
        rintro e W' ⟨rfl, hb⟩
        exact ⟨rfl, h2.trans (hb.mono h2.size), Touch.of_below hb⟩)
    clear hr2 hb2 p0 p1 p2 p3
    go_wp2_with fail
    refine HSV.out.mono ?_
    rintro e w3 ⟨v3, rfl, hr3, hb3, _⟩
    have HR3 := Lib.hid hr3.rowAt
    have HB3 := Lib.hid (HB2.out.trans (hb3.mono HB2.out.size))
    clear hr3 hb3
    go_wp2_with fail
    go_ret2
    exact ⟨_, rfl, HR3.out.low HB2.out.size, HB3.out⟩
end Go.Proofs.Ytjnghlnhogalbaa
