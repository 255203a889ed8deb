/-
  'LowTerms' of the program.
-/
import Derived.Test.YthafciggchdmpaaLwt
import Derived.Deep.RegionLaw
import Derived.Laws.AppendOwnNone
import Derived.Deep.CutRange
import Derived.Outline
namespace Go.Proofs.Ythafciggchdmpaa
open Go.RowKit
set_option linter.unusedVariables false

theorem lwt_no {ns ds : List Int} (h : maB ns ds = false) : lwtN ns ds = [] ∧ lwtD ns ds = [] := by
  unfold lwtN lwtD; rw [h]; exact ⟨rfl, rfl⟩
theorem lwt_yes {ns ds : List Int} (h : maB ns ds = true) : lwtN ns ds = lwN ns ds ns.length ∧ lwtD ns ds = lwD ns ds ns.length := by
  unfold lwtN lwtD; rw [h]; exact ⟨rfl, rfl⟩
theorem gc_bound {a b : Int} (h1 : 1 ≤ a) (h2 : a ≤ 100000) : 0 ≤ a / (Int.gcd a b : Nat) ∧ a / (Int.gcd a b : Nat) ≤ 100000 := by
  have h : (0 : Int) ≤ (Int.gcd a b : Nat) := by omega
  refine ⟨Int.ediv_nonneg (by omega) h, Int.le_trans (Int.ediv_le_self _ (by omega)) h2⟩

theorem own_form {w : World} {B : Nat} {v : Value} {n : Nat} {vs : List Value} (h : w.ownsRow B 3 1 v n vs) : ∃ a cap, v = .slice a n cap := by
  rcases h.2 with ⟨rfl, rfl⟩ | ⟨g, cap, cur, rfl, _⟩
  · exact ⟨none, 0, rfl⟩
  · exact ⟨_, cap, rfl⟩
theorem lw_mac {w : World} {B lo n : Nat} {a1 a2 : Option Addr} {c1 c2 : Nat} {xs ys xs' ys' : List Int} (h : LwAt w B (.slice a1 n c1) (.slice a2 n c2) xs ys) (hB : lo ≤ B) (ex : xs' = xs) (ey : ys' = ys) (hx : xs.length = n) (hy : ys.length = n) :
    MacAt w lo w.heap.size (.agg #[.slice a1 n c1, .slice a2 n c2]) xs' ys' := by
  subst ex ey
  obtain ⟨p1, e1, q1, r1⟩ := h.h1.rowIn
  obtain ⟨p2, e2, q2, r2⟩ := h.h2.rowIn
  injection q1 with q1 _ q1'
  injection q2 with q2 _ q2'
  subst q1 q2 q1' q2'
  refine ⟨Nat.le_refl _, a1, c1, a2, c2, by rw [hx, hy], r1.wide hB (Nat.le_refl _), r2.wide hB (Nat.le_refl _), fun n1 n2 e => ?_⟩
  obtain ⟨g, rfl, _, _, _⟩ := r1 n1
  subst e
  exact h.ne g rfl rfl

set_option maxRecDepth 100000 in
set_option maxHeartbeats 4000000 in
theorem iLowTerms (ns ds : List Int) (v : Value) (w : World) (l1 : ns.length ≤ 1048576) (l2 : ds.length ≤ 1048576) (h : MacIn w v ns ds) :
    Calls Try.prog 27 #[v] w (RetMac (lwtN ns ds) (lwtD ns ds) (maB ns ds) w) := by
  obtain ⟨v1, v2, rfl, i1, i2⟩ := h
  obtain ⟨i0, hi, hi0, hi1, hi2⟩ := info_parts info3
  have A := Lib.hid ((Bx.new w v1 v2 34).grow (.cells #[.slice none 0 0, .slice none 0 0] 34))
  have R : Hid (BxF ((w.alloc (.cells #[v1, v2] 34)).alloc (.cells #[.slice none 0 0, .slice none 0 0] 34)) (w.heap.size + 1) (.slice none 0 0) (.slice none 0 0)) := Lib.hid (by
    have := BxF.new (w.alloc (.cells #[v1, v2] 34)) (.slice none 0 0) (.slice none 0 0) 34
    rw [show (w.alloc (.cells #[v1, v2] 34)).heap.size = w.heap.size + 1 by simp] at this
    exact this)
  have HB : Hid (Below w.heap.size w ((w.alloc (.cells #[v1, v2] 34)).alloc (.cells #[.slice none 0 0, .slice none 0 0] 34))) := Lib.hid ((below_alloc w _).alloc (by simp) _)
  have M := Lib.hid ((MacIn.agg i1 i2).kept HB.out)
  have HG := Lib.hid (fun W hm => isMachine_any ns ds (.agg #[v1, v2]) W l1 l2 hm)
  by_cases hg : maB ns ds = true
  case neg =>
    have hg' : maB ns ds = false := by simpa using hg
    obtain ⟨e1, e2⟩ := lwt_no hg'
    rw [e1, e2, hg']
    rw [hg'] at HG
    clear hg hg' e1 e2 i1 i2
    go_enter Try.func27, Try.ntmps27
    go_wp2_with fail
    refine (HG.out _ M.out).mono ?_
    rintro e w1 ⟨rfl, hb1⟩
    replace R := Lib.hid (R.out.kept hb1)
    replace HB := Lib.hid (HB.out.trans (hb1.mono HB.out.size))
    clear hb1
    obtain ⟨⟨r0, r1, r2⟩, r3, r4⟩ := R.out
    go_wp2_with fail
    refine bodyPost_ret (v := .tuple #[.agg #[.slice none 0 0, .slice none 0 0], .bool false]) (by simp [results, Try.f27, go_sem, r0, r1]) rfl ⟨_, rfl, macAt_nil _ _ _ (Nat.le_refl _), ?_⟩
    exact (HB.out.setCell (by simp) _).setCell (by simp) _
  case pos =>
    obtain ⟨hl, h12, hns, hds⟩ := maB_parts hg
    obtain ⟨e1, e2⟩ := lwt_yes hg
    rw [e1, e2, hg]
    rw [hg] at HG
    have HNS := Lib.hid hns
    have HDS := Lib.hid hds
    have HSN := Lib.hid (fun j => lwN_succ ns ds j)
    have HSD := Lib.hid (fun j => lwD_succ ns ds j)
    have HLN := Lib.hid (fun j => lwN_len ns ds j)
    have HLD := Lib.hid (fun j => lwD_len ns ds j)
    clear hg e1 e2 hns hds
    go_enter Try.func27, Try.ntmps27
    go_wp2_with fail
    refine (HG.out _ M.out).mono ?_
    rintro e w1 ⟨rfl, hb1⟩
    replace A := Lib.hid (A.out.kept hb1)
    replace R := Lib.hid (R.out.kept hb1)
    replace HB := Lib.hid (HB.out.trans (hb1.mono HB.out.size))
    have hz1 : w.heap.size + 1 < w1.heap.size := R.out.1.2.2
    clear hb1 M HG
    obtain ⟨a0, a1, a2⟩ := A.out
    obtain ⟨b1, c1, rfl, x1⟩ := i1.rd
    obtain ⟨b2, c2, rfl, x2⟩ := i2.rd
    have HX1 := Lib.hid x1
    have HX2 := Lib.hid x2
    clear x1 x2 i1 i2
    have hn1 : ¬ w1.heap.size = w.heap.size := by omega
    have hn2 : ¬ w.heap.size = w1.heap.size := by omega
    go_wp2_with fail
    have A2 := Lib.hid (A.out.grow (.cells #[.slice none 0 0, .slice none 0 0] 34))
    have R2 := Lib.hid (R.out.kept (below_alloc w1 (.cells #[.slice none 0 0, .slice none 0 0] 34)))
    have O2 := Lib.hid (BxF.new w1 (.slice none 0 0) (.slice none 0 0) 34)
    have HB2 := Lib.hid (HB.out.trans ((below_alloc w1 (.cells #[.slice none 0 0, .slice none 0 0] 34)).mono HB.out.size))
    clear A R HB a0 a1 a2
    obtain ⟨K, hK⟩ : ∃ K, ns.length = K := ⟨_, rfl⟩
    rw [hK] at hl h12 HNS HDS HX1 A2 ⊢
    rw [← hl] at HX2 A2 ⊢
    have hK2 : (K : Int) ≤ 12 := by omega
    have HEQN : Hid (lwN ns ds ns.length = lwN ns ds K) := Lib.hid (by rw [hK])
    have HEQD : Hid (lwD ns ds ns.length = lwD ns ds K) := Lib.hid (by rw [hK])
    clear hK hl l1 l2
    go_loopw [15] (fun i wr => ∃ (j : Nat) (u1 u2 : Value), j ≤ K ∧ i = .int .i64 j ∧ Bx wr w.heap.size (.slice b1 K c1) (.slice b2 K c2) ∧ BxF wr (w.heap.size + 1) (.slice none 0 0) (.slice none 0 0) ∧ BxF wr w1.heap.size u1 u2 ∧ LwAt wr (w1.heap.size + 1) u1 u2 (lwN ns ds j) (lwD ns ds j) ∧ Below w.heap.size w wr) (fun i _ => K - (RowKit.intOf i).toNat)
    case atStart => exact ⟨0, .slice none 0 0, .slice none 0 0, Nat.zero_le _, rfl, A2.out, R2.out, O2.out, ⟨intsAt_nil _ _, intsAt_nil _ _, fun g e => by cases e⟩, HB2.out⟩
    case round =>
      obtain ⟨j, u1, u2, hj, rfl, A, R, O, HL, HB⟩ := hrel
      replace A := Lib.hid A
      replace R := Lib.hid R
      replace O := Lib.hid O
      replace HL := Lib.hid HL
      replace HB := Lib.hid HB
      clear A2 R2 O2 HB2
      by_cases hlt : j < K
      · obtain ⟨g1, rfl, k1, q1⟩ := HX1.out j hlt
        obtain ⟨g2, rfl, k2, q2⟩ := HX2.out j hlt
        have hx := HNS.out j hlt
        have hy := HDS.out j hlt
        have HSN1 := HSN.out j
        have HSD1 := HSD.out j
        replace q1 := (HB.out.cell (p := ⟨g1, j, none⟩) k1).trans q1
        replace q2 := (HB.out.cell (p := ⟨g2, j, none⟩) k2).trans q2
        have e0 : gcI ns ds j = (Int.gcd (ns.getD j 0) (ds.getD j 0) : Nat) := rfl
        rw [e0] at HSN1 HSD1
        generalize ns.getD j 0 = x at *
        generalize ds.getD j 0 = y at *
        have HLT := Lib.hid (fun W => lowestTerms_any x y W (by omega) (by omega) (by omega) (by omega) (by omega))
        rw [lowT_pos (by omega) (by omega)] at HLT
        have hgx := gc_bound (b := y) hx.1 hx.2
        have hgy := gc_bound (b := x) hy.1 hy.2
        rw [show Int.gcd y x = Int.gcd x y from Int.gcd_comm _ _] at hgy
        dsimp only at HLT
        generalize x / (Int.gcd x y : Nat) = a at *
        generalize y / (Int.gcd x y : Nat) = b at *
        have HS1 := Lib.hid HSN1
        have HS2 := Lib.hid HSD1
        have hlt2 : (j : Int) < (K : Int) := by omega
        have hj0 : (0 : Int) ≤ (j : Int) := by omega
        obtain ⟨a0, a1, a2⟩ := A.out
        obtain ⟨hga1, hga2⟩ := hgx
        obtain ⟨hgb1, hgb2⟩ := hgy
        clear HSN1 HSD1 e0 hx hy k1 k2
        go_upto_region 7 with fail
        go_cut [6, 7] from 18 to 31 (fun s6 s7 wx => s6 = .int .i64 a ∧ s7 = .int .i64 b ∧ Hid (Below wr.heap.size wr wx))
        case first =>
          go_region_law (go_simp; go_at_call 43; refine (HLT.out _).mono ?_; rintro e w3 ⟨rfl, hb3⟩; have HB3 : Hid (Below wr.heap.size wr w3) := Lib.hid (by first | exact hb3 | exact (Below.refl _ _).drew.trans hb3 | exact (Below.refl _ _).drew.drew.trans hb3); clear hb3)
          all_goals
            go_wp2_with fail
            go_meet
            case rel => exact ⟨rfl, rfl, Lib.hid (by first | exact HB3.out | exact HB3.out.drew | exact HB3.out.drew.drew)⟩
        case rest =>
          obtain ⟨rfl, rfl, HBX⟩ := hcut
          replace A := Lib.hid (A.out.kept HBX.out)
          replace R := Lib.hid (R.out.kept HBX.out)
          replace O := Lib.hid (O.out.kept HBX.out)
          replace HL := Lib.hid (HL.out.kept HBX.out)
          replace HB := Lib.hid (HB.out.trans (HBX.out.mono HB.out.size))
          clear HBX q1 q2 a0 a1 a2 HLT
          have hwx : w1.heap.size < wc.heap.size := O.out.1.2.2
          obtain ⟨p1, d1, rfl⟩ := HL.out.h1.form
          obtain ⟨p2, d2, rfl⟩ := HL.out.h2.form
          rw [HLN.out, HLD.out] at O HL
          obtain ⟨o0, o1, o2⟩ := O.out.1
          have of0 := O.out.2.1
          have of1 := O.out.2.2
          have H1 : Hid (wc.ownsRow (w1.heap.size + 1) 3 1 (.slice p1 j d1) j ((lwN ns ds j).map (Value.int .i64))) := Lib.hid (by have := HL.out.h1; unfold IntsAt at this; rwa [HLN.out] at this)
          have hj3 : j + 1 ≤ maxLen := by unfold maxLen; omega
          have hn1 : ¬ wc.heap.size = w1.heap.size := by omega
          have hn2 : ¬ w1.heap.size = wc.heap.size := by omega
          have hOA : w.heap.size < w1.heap.size + 1 := by omega
          have hOR : w.heap.size + 1 < w1.heap.size + 1 := by omega
          go_upto_region 9 with (at_builtin; refine wpList_append_own_at _ rfl _ _ 32 rfl (w1.heap.size + 1) 3 i0 (.int .i64 0) 1 8 Try.underlying32 hi hi0 hi1 hi2 rfl (by decide) _ _ _ rfl (H1.out.alloc _) ⟨wc.heap.size, 0, none⟩ 1 1 [.int .i64 a] rfl rfl (fun j u hu => new_cell_at _ _ _ (by simp) hu) (by simp [Value.oneCell']) hj3 (by omega) (by simp; omega) ?_; intro v5 w5 hown5 hgrow5 _ hat5; obtain ⟨p5, d5, rfl⟩ := own_form hown5; have A5 := Lib.hid (A.out.grown H1.out hOA (below_alloc wc _) hgrow5); have R5 := Lib.hid (R.out.grown H1.out hOR (below_alloc wc _) hgrow5); have O5 := Lib.hid (O.out.grown H1.out (Nat.lt_succ_self _) (below_alloc wc _) hgrow5); have HB5 := Lib.hid ((HB.out.trans ((below_alloc wc _).mono HB.out.size)).grown hgrow5 (by have := HB.out.size; simp; omega) (fun k e => Nat.le_trans (by omega) (World.ownsRow.lt H1.out k e).1)); have HOWN := Lib.hid hown5; have HGR := Lib.hid hgrow5; have HAT := Lib.hid hat5; clear hown5 hgrow5 hat5; obtain ⟨⟨y0, y1, y2⟩, y3, y4⟩ := O5.out)
          have hsn := HL.out.snoc (below_alloc wc _) (by rw [HLN.out]; exact HOWN.out) HGR.out HAT.out
          rw [← HS1.out] at hsn
          have L6 := Lib.hid (hsn.set (O := w1.heap.size) (k := 0) (Nat.lt_succ_self _) (.slice p5 (j + 1) d5))
          have A6 := Lib.hid (A5.out.other (c := w1.heap.size) (k := 0) (by omega) (.slice p5 (j + 1) d5))
          have R6 := Lib.hid (R5.out.other (c := w1.heap.size) (k := 0) (by omega) (.slice p5 (j + 1) d5))
          have O6 := Lib.hid (O5.out.set0 (.slice p5 (j + 1) d5))
          have HB6 := Lib.hid (HB5.out.setCell (p := ⟨w1.heap.size, 0, none⟩) (by simp; omega) (.slice p5 (j + 1) d5))
          clear hsn A R O HL HB A5 R5 O5 HB5 HOWN HGR HAT o0 o1 o2 of0 of1 H1 hn1 hn2 hwx y0 y1 y2 y3 y4
          generalize w5.setCell ⟨w1.heap.size, 0, none⟩ (.slice p5 (j + 1) d5) = w6 at *
          have A := A6
          have R := R6
          have O := O6
          have HB := HB6
          have hwx : w1.heap.size < w6.heap.size := O.out.1.2.2
          obtain ⟨o0, o1, o2⟩ := O.out.1
          have of0 := O.out.2.1
          have of1 := O.out.2.2
          have H2 : Hid (w6.ownsRow (w1.heap.size + 1) 3 1 (.slice p2 j d2) j ((lwD ns ds j).map (Value.int .i64))) := Lib.hid (by have := L6.out.h2; unfold IntsAt at this; rwa [HLD.out] at this)
          have hn1 : ¬ w6.heap.size = w1.heap.size := by omega
          have hn2 : ¬ w1.heap.size = w6.heap.size := by omega
          clear A6 R6 O6 HB6
          go_wp2_with (at_builtin; refine wpList_append_own_at _ rfl _ _ 32 rfl (w1.heap.size + 1) 3 i0 (.int .i64 0) 1 8 Try.underlying32 hi hi0 hi1 hi2 rfl (by decide) _ _ _ rfl (H2.out.alloc _) ⟨w6.heap.size, 0, none⟩ 1 1 [.int .i64 b] rfl rfl (fun j u hu => new_cell_at _ _ _ (by simp) hu) (by simp [Value.oneCell']) hj3 (by omega) (by simp; omega) ?_; intro v5 w8 hown5 hgrow5 _ hat5; obtain ⟨p8, d8, rfl⟩ := own_form hown5; have A5 := Lib.hid (A.out.grown H2.out hOA (below_alloc w6 _) hgrow5); have R5 := Lib.hid (R.out.grown H2.out hOR (below_alloc w6 _) hgrow5); have O5 := Lib.hid (O.out.grown H2.out (Nat.lt_succ_self _) (below_alloc w6 _) hgrow5); have HB5 := Lib.hid ((HB.out.trans ((below_alloc w6 _).mono HB.out.size)).grown hgrow5 (by have := HB.out.size; simp; omega) (fun k e => Nat.le_trans (by omega) (World.ownsRow.lt H2.out k e).1)); have HOWN := Lib.hid hown5; have HGR := Lib.hid hgrow5; have HAT := Lib.hid hat5; clear hown5 hgrow5 hat5; obtain ⟨⟨y0, y1, y2⟩, y3, y4⟩ := O5.out)
          have hsn := L6.out.sym.snoc (below_alloc w6 _) (by rw [HLD.out]; exact HOWN.out) HGR.out HAT.out
          rw [← HS2.out] at hsn
          exact ⟨⟨j + 1, .slice p5 (j + 1) d5, .slice p8 (j + 1) d8, hlt, by go_num, A5.out.other (by omega) _, R5.out.other (by omega) _, O5.out.set1 _, hsn.sym.set (Nat.lt_succ_self _) _, HB5.out.setCell (p := ⟨w1.heap.size, 1, none⟩) (by simp; omega) _⟩, by simp [RowKit.intOf]; omega⟩
      · obtain rfl : j = K := by omega
        have hlt2 : ¬ ((j : Int) < (j : Int)) := by omega
        obtain ⟨p1, d1, rfl⟩ := HL.out.h1.form
        obtain ⟨p2, d2, rfl⟩ := HL.out.h2.form
        rw [HLN.out, HLD.out] at O HL
        obtain ⟨o0, o1, o2⟩ := O.out.1
        obtain ⟨⟨r0, r1, r2⟩, r3, r4⟩ := R.out
        go_wp2_with fail
        refine bodyPost_ret (v := .tuple #[.agg #[.slice p1 j d1, .slice p2 j d2], .bool true]) (by simp [results, Try.f27, go_sem, r0, r1]) rfl ⟨_, rfl, ?_, ?_⟩
        · have hL := (HL.out.set (O := w.heap.size + 1) (k := 0) (by omega) (.slice p1 j d1)).set (O := w.heap.size + 1) (k := 1) (by omega) (.slice p2 j d2)
          have hlo : w.heap.size ≤ w1.heap.size + 1 := by omega
          exact lw_mac hL hlo HEQN.out HEQD.out (HLN.out j) (HLD.out j)
        · exact (HB.out.setCell (p := ⟨w.heap.size + 1, 0, none⟩) (by simp) _).setCell (p := ⟨w.heap.size + 1, 1, none⟩) (by simp) _
end Go.Proofs.Ythafciggchdmpaa
