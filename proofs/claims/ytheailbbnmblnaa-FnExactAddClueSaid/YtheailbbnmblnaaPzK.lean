/-
  'Solutions', 'CountSolutions', 'FirstSolution', 'GreatestSolution', 'IsSolved' of both.
-/
import Derived.Test.YtheailbbnmblnaaPzJ
import Derived.Test.YtheailbbnmblnaaRowAt
namespace Go.Proofs.Ytheailbbnmblnaa
open Go.RowKit
set_option linter.unusedVariables false

theorem IntsIn.rd {w : World} {v : Value} {xs : List Int} (h : IntsIn w v xs) : ∃ a cap, v = .slice a xs.length cap ∧ ∀ j, j < xs.length → ∃ g, a = some ⟨g, 0, none⟩ ∧ g < w.heap.size ∧ w.cell? ⟨g, j, none⟩ = some (.int .i64 (xs.getD j 0)) := by
  obtain ⟨a, cap, rfl, hx⟩ := h
  refine ⟨a, cap, rfl, fun j hj => ?_⟩
  obtain ⟨g, rfl, hg, hr⟩ := hx (by rintro rfl; simp at hj)
  refine ⟨g, rfl, hg, ?_⟩
  exact (hr j hj).1
/-- The first and the last of a row. -/
def fsL (l : List Int) : Int × Bool := if l.length = 0 then (0, false) else (l.getD 0 0, true)
def gsL (l : List Int) : Int × Bool := if l.length = 0 then (0, false) else (l.getD (l.length - 1) 0, true)
theorem solR_no {t p : Int} {ps : List Pt} (h : pzB t p ps = false) : solR t p ps = [] := by rw [solR, h]; rfl
theorem solR_yes {t p : Int} {ps : List Pt} (h : pzB t p ps = true) : solR t p ps = solA t p ps := by rw [solR, if_pos h]
theorem solR_le (t p : Int) (ps : List Pt) : (solR t p ps).length ≤ 60 := by
  unfold solR
  split
  · exact solA_len t p ps
  · simp

set_option maxHeartbeats 2000000 in
theorem sSolutions (t p : Int) (ps : List Pt) (v : Value) (w : World) (hl : ps.length ≤ 1048576) (h : PuzIn w v t p ps) :
    Calls Try.prog 26 #[v] w (RetRow (solR t p ps) (pzB t p ps) w) := by
  have HG := Lib.hid (fun W (hb : Below w.heap.size w W) => pzGood_any t p ps v W hl (h.kept hb))
  obtain ⟨a, c, rfl, _, hx⟩ := h.cl
  clear h
  have HB := Lib.hid (below_new w (.cells #[.int .i64 t, .int .i64 p, .slice a ps.length c] 38))
  have B := Lib.hid (Bz.new w t p (.slice a ps.length c) 38)
  cases hg : pzB t p ps
  · have HS := Lib.hid (solR_no hg)
    rw [hg] at HG
    rw [HS.out]
    clear hx hl hg
    go_enter Try.func26, Try.ntmps26
    go_wp2_with fail
    refine (HG.out _ HB.out).mono ?_
    rintro e w1 ⟨rfl, hb1⟩
    have HB1 := Lib.hid (HB.out.trans (hb1.mono HB.out.size))
    obtain ⟨⟨p0, p1, p2⟩, p3⟩ := (B.out.kept hb1)
    clear hb1
    go_wp2_with fail
    go_ret2
    exact ⟨_, rfl, rowAt_nil _ _, HB1.out⟩
  · have HS := Lib.hid (solR_yes hg)
    obtain ⟨g1, g2, g3⟩ := pzB_iff.1 hg
    have HA := Lib.hid (fun W (hb : Below w.heap.size w W) => pzAll_any t p ps a c W g1 g3 g2 (hx.keep hb))
    have hlen := solA_len t p ps
    rw [hg] at HG
    rw [HS.out]
    clear g1 g2 g3
    generalize solA t p ps = l at HA hlen HS ⊢
    clear hx hl hg
    go_enter Try.func26, Try.ntmps26
    go_wp2_with fail
    refine (HG.out _ HB.out).mono ?_
    rintro e w1 ⟨rfl, hb1⟩
    have HB1 := Lib.hid (HB.out.trans (hb1.mono HB.out.size))
    obtain ⟨⟨p0, p1, p2⟩, p3⟩ := (B.out.kept hb1)
    clear hb1
    go_wp2_with fail
    refine (HA.out _ HB1.out).mono ?_
    rintro e w2 ⟨v2, rfl, hr, hb2⟩
    have HB2 := Lib.hid (HB1.out.trans (hb2.mono HB1.out.size))
    have HR := Lib.hid (hr.rowAt.low HB1.out.size)
    clear hb2 hr
    go_wp2_with fail
    go_ret2
    exact ⟨_, rfl, HR.out, HB2.out⟩

set_option maxHeartbeats 2000000 in
theorem iSolutions (t p : Int) (ps : List Pt) (v : Value) (w : World) (hl : ps.length ≤ 1048576) (h : PuzIn w v t p ps) :
    Calls Try.prog 27 #[v] w (RetRow (solR t p ps) (pzB t p ps) w) := by
  have HG := Lib.hid (fun W (hb : Below w.heap.size w W) => isPuzzle_any t p ps v W hl (h.kept hb))
  obtain ⟨a, c, rfl, _, hx⟩ := h.cl
  clear h
  have HB := Lib.hid (below_new w (.cells #[.int .i64 t, .int .i64 p, .slice a ps.length c] 38))
  have B := Lib.hid (Bz.new w t p (.slice a ps.length c) 38)
  cases hg : pzB t p ps
  · have HS := Lib.hid (solR_no hg)
    rw [hg] at HG
    rw [HS.out]
    clear hx hl hg
    go_enter Try.func27, Try.ntmps27
    go_wp2_with fail
    refine (HG.out _ HB.out).mono ?_
    rintro e w1 ⟨rfl, hb1⟩
    have HB1 := Lib.hid (HB.out.trans (hb1.mono HB.out.size))
    obtain ⟨⟨p0, p1, p2⟩, p3⟩ := (B.out.kept hb1)
    clear hb1
    go_wp2_with fail
    go_ret2
    exact ⟨_, rfl, rowAt_nil _ _, HB1.out⟩
  · have HS := Lib.hid (solR_yes hg)
    obtain ⟨g1, g2, g3⟩ := pzB_iff.1 hg
    have HA := Lib.hid (fun W (hb : Below w.heap.size w W) => fitting_any t p (.slice a ps.length c) ps a c W g3 g2 (hx.keep hb))
    have hlen := solA_len t p ps
    rw [hg] at HG
    rw [HS.out]
    clear g1 g2 g3
    generalize solA t p ps = l at HA hlen HS ⊢
    clear hx hl hg
    go_enter Try.func27, Try.ntmps27
    go_wp2_with fail
    refine (HG.out _ HB.out).mono ?_
    rintro e w1 ⟨rfl, hb1⟩
    have HB1 := Lib.hid (HB.out.trans (hb1.mono HB.out.size))
    obtain ⟨⟨p0, p1, p2⟩, p3⟩ := (B.out.kept hb1)
    clear hb1
    go_wp2_with fail
    refine (HA.out _ HB1.out).mono ?_
    rintro e w2 ⟨v2, rfl, hr, hb2⟩
    have HB2 := Lib.hid (HB1.out.trans (hb2.mono HB1.out.size))
    have HR := Lib.hid (hr.rowAt.low HB1.out.size)
    clear hb2 hr
    go_wp2_with fail
    go_ret2
    exact ⟨_, rfl, HR.out, HB2.out⟩

set_option maxHeartbeats 2000000 in
theorem sCountSolutions (t p : Int) (ps : List Pt) (v : Value) (w : World) (hl : ps.length ≤ 1048576) (h : PuzIn w v t p ps) :
    Calls Try.prog 32 #[v] w (fun e w' => e = .returned (.tuple #[.int .i64 ((solR t p ps).length : Nat), .bool (pzB t p ps)]) ∧ Below w.heap.size w w') := by
  have HG := Lib.hid (fun W (hb : Below w.heap.size w W) => pzGood_any t p ps v W hl (h.kept hb))
  obtain ⟨a, c, rfl, _, hx⟩ := h.cl
  clear h
  have HB := Lib.hid (below_new w (.cells #[.int .i64 t, .int .i64 p, .slice a ps.length c] 38))
  have B := Lib.hid (Bz.new w t p (.slice a ps.length c) 38)
  cases hg : pzB t p ps
  · have HS := Lib.hid (solR_no hg)
    rw [hg] at HG
    rw [HS.out]
    clear hx hl hg
    go_enter Try.func32, Try.ntmps32
    go_wp2_with fail
    refine (HG.out _ HB.out).mono ?_
    rintro e w1 ⟨rfl, hb1⟩
    have HB1 := Lib.hid (HB.out.trans (hb1.mono HB.out.size))
    obtain ⟨⟨p0, p1, p2⟩, p3⟩ := (B.out.kept hb1)
    clear hb1
    go_wp2_with fail
    go_ret2
    exact ⟨rfl, HB1.out⟩
  · have HS := Lib.hid (solR_yes hg)
    obtain ⟨g1, g2, g3⟩ := pzB_iff.1 hg
    have HA := Lib.hid (fun W (hb : Below w.heap.size w W) => pzAll_any t p ps a c W g1 g3 g2 (hx.keep hb))
    have hlen := solA_len t p ps
    rw [hg] at HG
    rw [HS.out]
    clear g1 g2 g3
    generalize solA t p ps = l at HA hlen HS ⊢
    clear hx hl hg
    go_enter Try.func32, Try.ntmps32
    go_wp2_with fail
    refine (HG.out _ HB.out).mono ?_
    rintro e w1 ⟨rfl, hb1⟩
    have HB1 := Lib.hid (HB.out.trans (hb1.mono HB.out.size))
    obtain ⟨⟨p0, p1, p2⟩, p3⟩ := (B.out.kept hb1)
    clear hb1
    go_wp2_with fail
    refine (HA.out _ HB1.out).mono ?_
    rintro e w2 ⟨v2, rfl, hr, hb2⟩
    have HB2 := Lib.hid (HB1.out.trans (hb2.mono HB1.out.size))
    obtain ⟨a2, c2, rfl⟩ := hr.form
    clear hb2 hr
    go_wp2_with fail
    go_ret2
    exact ⟨rfl, HB2.out⟩

set_option maxHeartbeats 2000000 in
theorem sFirstSolution (t p : Int) (ps : List Pt) (v : Value) (w : World) (hl : ps.length ≤ 1048576) (h : PuzIn w v t p ps) :
    Calls Try.prog 34 #[v] w (fun e w' => e = .returned (.tuple #[.int .i64 (fsL (solR t p ps)).1, .bool (fsL (solR t p ps)).2]) ∧ Below w.heap.size w w') := by
  have HG := Lib.hid (fun W (hb : Below w.heap.size w W) => pzGood_any t p ps v W hl (h.kept hb))
  obtain ⟨a, c, rfl, _, hx⟩ := h.cl
  clear h
  have HB := Lib.hid (below_new w (.cells #[.int .i64 t, .int .i64 p, .slice a ps.length c] 38))
  have B := Lib.hid (Bz.new w t p (.slice a ps.length c) 38)
  cases hg : pzB t p ps
  · have HS := Lib.hid (solR_no hg)
    rw [hg] at HG
    rw [HS.out]
    clear hx hl hg
    go_enter Try.func34, Try.ntmps34
    go_wp2_with fail
    refine (HG.out _ HB.out).mono ?_
    rintro e w1 ⟨rfl, hb1⟩
    have HB1 := Lib.hid (HB.out.trans (hb1.mono HB.out.size))
    obtain ⟨⟨p0, p1, p2⟩, p3⟩ := (B.out.kept hb1)
    clear hb1
    go_wp2_with fail
    go_ret2
    exact ⟨rfl, HB1.out⟩
  · have HS := Lib.hid (solR_yes hg)
    obtain ⟨g1, g2, g3⟩ := pzB_iff.1 hg
    have HA := Lib.hid (fun W (hb : Below w.heap.size w W) => pzAll_any t p ps a c W g1 g3 g2 (hx.keep hb))
    have hlen := solA_len t p ps
    rw [hg] at HG
    rw [HS.out]
    clear g1 g2 g3
    generalize solA t p ps = l at HA hlen HS ⊢
    clear hx hl hg
    go_enter Try.func34, Try.ntmps34
    go_wp2_with fail
    refine (HG.out _ HB.out).mono ?_
    rintro e w1 ⟨rfl, hb1⟩
    have HB1 := Lib.hid (HB.out.trans (hb1.mono HB.out.size))
    obtain ⟨⟨p0, p1, p2⟩, p3⟩ := (B.out.kept hb1)
    clear hb1
    go_wp2_with fail
    refine (HA.out _ HB1.out).mono ?_
    rintro e w2 ⟨v2, rfl, hr, hb2⟩
    have HB2 := Lib.hid (HB1.out.trans (hb2.mono HB1.out.size))
    have HRD := Lib.hid hr.isIn.rd
    clear hb2 hr
    obtain ⟨a2, c2, rfl, hcell⟩ := HRD.out
    by_cases h0 : l.length = 0
    · have hz : (l.length : Int) = 0 := by omega
      have hzz : ((l.length : Int) == 0) = true := by simp [hz]
      have HE : Hid (fsL l = (0, false)) := Lib.hid (by rw [fsL, if_pos h0])
      clear hcell HRD
      clear h0 hz
      go_wp2_with fail
      go_ret2
      exact ⟨ret_two HE.out, HB2.out⟩
    · have hzz : ((l.length : Int) == 0) = false := by rw [beq_eq_false_iff_ne]; omega
      have HE : Hid (fsL l = (l.getD (0) 0, true)) := Lib.hid (by rw [fsL, if_neg h0])
      obtain ⟨g, rfl, hgs, hc⟩ := hcell (0) (by omega)
      obtain ⟨x, hx⟩ : ∃ x, l.getD (0) 0 = x := ⟨_, rfl⟩
      rw [hx] at hc HE
      have hl60 : (l.length : Int) ≤ 60 := by omega
      have hpos : (0 : Int) < (l.length : Int) := by omega
      have hpos1 : (1 : Int) ≤ (l.length : Int) := by omega
      have hpos2 : 1 ≤ l.length := by omega
      obtain ⟨L, hL⟩ : ∃ L, L = l.length := ⟨_, rfl⟩
      try rw [← hL] at hc
      rw [← hL] at hl60 hpos hpos1 hpos2 hzz hlen ⊢
      clear hcell HRD h0 hx hL
      go_wp2_with fail
      go_ret2
      exact ⟨ret_two HE.out, HB2.out⟩

set_option maxHeartbeats 2000000 in
theorem iFirstSolution (t p : Int) (ps : List Pt) (v : Value) (w : World) (hl : ps.length ≤ 1048576) (h : PuzIn w v t p ps) :
    Calls Try.prog 35 #[v] w (fun e w' => e = .returned (.tuple #[.int .i64 (fsL (solR t p ps)).1, .bool (fsL (solR t p ps)).2]) ∧ Below w.heap.size w w') := by
  have HA := Lib.hid (fun W (hb : Below w.heap.size w W) => iSolutions t p ps v W hl (h.kept hb))
  obtain ⟨a, c, rfl, _, hx⟩ := h.cl
  clear h hx hl
  have HB := Lib.hid (below_new w (.cells #[.int .i64 t, .int .i64 p, .slice a ps.length c] 38))
  have hlen := solR_le t p ps
  generalize solR t p ps = l at HA hlen ⊢
  generalize pzB t p ps = ok at HA
  go_enter Try.func35, Try.ntmps35
  go_wp2_with fail
  refine (HA.out _ HB.out).mono ?_
  rintro e w2 ⟨v2, rfl, hr, hb2⟩
  have HB2 := Lib.hid (HB.out.trans (hb2.mono HB.out.size))
  have HRD := Lib.hid hr.isIn.rd
  clear hb2 hr
  obtain ⟨a2, c2, rfl, hcell⟩ := HRD.out
  by_cases h0 : l.length = 0
  · have hz : (l.length : Int) = 0 := by omega
    have hzz : ((l.length : Int) == 0) = true := by simp [hz]
    have HE : Hid (fsL l = (0, false)) := Lib.hid (by rw [fsL, if_pos h0])
    clear hcell HRD
    clear h0 hz
    go_wp2_with fail
    go_ret2
    exact ⟨ret_two HE.out, HB2.out⟩
  · have hzz : ((l.length : Int) == 0) = false := by rw [beq_eq_false_iff_ne]; omega
    have HE : Hid (fsL l = (l.getD (0) 0, true)) := Lib.hid (by rw [fsL, if_neg h0])
    obtain ⟨g, rfl, hgs, hc⟩ := hcell (0) (by omega)
    obtain ⟨x, hx⟩ : ∃ x, l.getD (0) 0 = x := ⟨_, rfl⟩
    rw [hx] at hc HE
    have hl60 : (l.length : Int) ≤ 60 := by omega
    have hpos : (0 : Int) < (l.length : Int) := by omega
    have hpos1 : (1 : Int) ≤ (l.length : Int) := by omega
    have hpos2 : 1 ≤ l.length := by omega
    obtain ⟨L, hL⟩ : ∃ L, L = l.length := ⟨_, rfl⟩
    try rw [← hL] at hc
    rw [← hL] at hl60 hpos hpos1 hpos2 hzz hlen ⊢
    clear hcell HRD h0 hx hL
    go_wp2_with fail
    go_ret2
    exact ⟨ret_two HE.out, HB2.out⟩

set_option maxHeartbeats 2000000 in
theorem sGreatestSolution (t p : Int) (ps : List Pt) (v : Value) (w : World) (hl : ps.length ≤ 1048576) (h : PuzIn w v t p ps) :
    Calls Try.prog 36 #[v] w (fun e w' => e = .returned (.tuple #[.int .i64 (gsL (solR t p ps)).1, .bool (gsL (solR t p ps)).2]) ∧ Below w.heap.size w w') := by
  have HG := Lib.hid (fun W (hb : Below w.heap.size w W) => pzGood_any t p ps v W hl (h.kept hb))
  obtain ⟨a, c, rfl, _, hx⟩ := h.cl
  clear h
  have HB := Lib.hid (below_new w (.cells #[.int .i64 t, .int .i64 p, .slice a ps.length c] 38))
  have B := Lib.hid (Bz.new w t p (.slice a ps.length c) 38)
  cases hg : pzB t p ps
  · have HS := Lib.hid (solR_no hg)
    rw [hg] at HG
    rw [HS.out]
    clear hx hl hg
    go_enter Try.func36, Try.ntmps36
    go_wp2_with fail
    refine (HG.out _ HB.out).mono ?_
    rintro e w1 ⟨rfl, hb1⟩
    have HB1 := Lib.hid (HB.out.trans (hb1.mono HB.out.size))
    obtain ⟨⟨p0, p1, p2⟩, p3⟩ := (B.out.kept hb1)
    clear hb1
    go_wp2_with fail
    go_ret2
    exact ⟨rfl, HB1.out⟩
  · have HS := Lib.hid (solR_yes hg)
    obtain ⟨g1, g2, g3⟩ := pzB_iff.1 hg
    have HA := Lib.hid (fun W (hb : Below w.heap.size w W) => pzAll_any t p ps a c W g1 g3 g2 (hx.keep hb))
    have hlen := solA_len t p ps
    rw [hg] at HG
    rw [HS.out]
    clear g1 g2 g3
    generalize solA t p ps = l at HA hlen HS ⊢
    clear hx hl hg
    go_enter Try.func36, Try.ntmps36
    go_wp2_with fail
    refine (HG.out _ HB.out).mono ?_
    rintro e w1 ⟨rfl, hb1⟩
    have HB1 := Lib.hid (HB.out.trans (hb1.mono HB.out.size))
    obtain ⟨⟨p0, p1, p2⟩, p3⟩ := (B.out.kept hb1)
    clear hb1
    go_wp2_with fail
    refine (HA.out _ HB1.out).mono ?_
    rintro e w2 ⟨v2, rfl, hr, hb2⟩
    have HB2 := Lib.hid (HB1.out.trans (hb2.mono HB1.out.size))
    have HRD := Lib.hid hr.isIn.rd
    clear hb2 hr
    obtain ⟨a2, c2, rfl, hcell⟩ := HRD.out
    by_cases h0 : l.length = 0
    · have hz : (l.length : Int) = 0 := by omega
      have hzz : ((l.length : Int) == 0) = true := by simp [hz]
      have HE : Hid (gsL l = (0, false)) := Lib.hid (by rw [gsL, if_pos h0])
      clear hcell HRD
      clear h0 hz
      go_wp2_with fail
      go_ret2
      exact ⟨ret_two HE.out, HB2.out⟩
    · have hzz : ((l.length : Int) == 0) = false := by rw [beq_eq_false_iff_ne]; omega
      have HE : Hid (gsL l = (l.getD (l.length - 1) 0, true)) := Lib.hid (by rw [gsL, if_neg h0])
      obtain ⟨g, rfl, hgs, hc⟩ := hcell (l.length - 1) (by omega)
      obtain ⟨x, hx⟩ : ∃ x, l.getD (l.length - 1) 0 = x := ⟨_, rfl⟩
      rw [hx] at hc HE
      have hl60 : (l.length : Int) ≤ 60 := by omega
      have hpos : (0 : Int) < (l.length : Int) := by omega
      have hpos1 : (1 : Int) ≤ (l.length : Int) := by omega
      have hpos2 : 1 ≤ l.length := by omega
      have hcast : ((l.length - 1 : Nat) : Int) = (l.length : Int) - 1 := by omega
      obtain ⟨L, hL⟩ : ∃ L, L = l.length := ⟨_, rfl⟩
      try rw [← hL] at hc
      rw [← hL] at hl60 hpos hpos1 hpos2 hzz hlen hcast ⊢
      clear hcell HRD h0 hx hL
      obtain ⟨J, rfl⟩ : ∃ J, L = J + 1 := ⟨L - 1, by omega⟩
      simp only [Nat.add_sub_cancel] at hc hcast
      clear hcast
      go_wp2_with fail
      go_ret2
      exact ⟨ret_two HE.out, HB2.out⟩

set_option maxHeartbeats 2000000 in
theorem iGreatestSolution (t p : Int) (ps : List Pt) (v : Value) (w : World) (hl : ps.length ≤ 1048576) (h : PuzIn w v t p ps) :
    Calls Try.prog 37 #[v] w (fun e w' => e = .returned (.tuple #[.int .i64 (gsL (solR t p ps)).1, .bool (gsL (solR t p ps)).2]) ∧ Below w.heap.size w w') := by
  have HA := Lib.hid (fun W (hb : Below w.heap.size w W) => iSolutions t p ps v W hl (h.kept hb))
  obtain ⟨a, c, rfl, _, hx⟩ := h.cl
  clear h hx hl
  have HB := Lib.hid (below_new w (.cells #[.int .i64 t, .int .i64 p, .slice a ps.length c] 38))
  have hlen := solR_le t p ps
  generalize solR t p ps = l at HA hlen ⊢
  generalize pzB t p ps = ok at HA
  go_enter Try.func37, Try.ntmps37
  go_wp2_with fail
  refine (HA.out _ HB.out).mono ?_
  rintro e w2 ⟨v2, rfl, hr, hb2⟩
  have HB2 := Lib.hid (HB.out.trans (hb2.mono HB.out.size))
  have HRD := Lib.hid hr.isIn.rd
  clear hb2 hr
  obtain ⟨a2, c2, rfl, hcell⟩ := HRD.out
  by_cases h0 : l.length = 0
  · have hz : (l.length : Int) = 0 := by omega
    have hzz : ((l.length : Int) == 0) = true := by simp [hz]
    have HE : Hid (gsL l = (0, false)) := Lib.hid (by rw [gsL, if_pos h0])
    clear hcell HRD
    clear h0 hz
    go_wp2_with fail
    go_ret2
    exact ⟨ret_two HE.out, HB2.out⟩
  · have hzz : ((l.length : Int) == 0) = false := by rw [beq_eq_false_iff_ne]; omega
    have HE : Hid (gsL l = (l.getD (l.length - 1) 0, true)) := Lib.hid (by rw [gsL, if_neg h0])
    obtain ⟨g, rfl, hgs, hc⟩ := hcell (l.length - 1) (by omega)
    obtain ⟨x, hx⟩ : ∃ x, l.getD (l.length - 1) 0 = x := ⟨_, rfl⟩
    rw [hx] at hc HE
    have hl60 : (l.length : Int) ≤ 60 := by omega
    have hpos : (0 : Int) < (l.length : Int) := by omega
    have hpos1 : (1 : Int) ≤ (l.length : Int) := by omega
    have hpos2 : 1 ≤ l.length := by omega
    have hcast : ((l.length - 1 : Nat) : Int) = (l.length : Int) - 1 := by omega
    obtain ⟨L, hL⟩ : ∃ L, L = l.length := ⟨_, rfl⟩
    try rw [← hL] at hc
    rw [← hL] at hl60 hpos hpos1 hpos2 hzz hlen hcast ⊢
    clear hcell HRD h0 hx hL
    obtain ⟨J, rfl⟩ : ∃ J, L = J + 1 := ⟨L - 1, by omega⟩
    simp only [Nat.add_sub_cancel] at hc hcast
    clear hcast
    go_wp2_with fail
    go_ret2
    exact ⟨ret_two HE.out, HB2.out⟩

theorem iCountSolutions (t p : Int) (ps : List Pt) (v : Value) (w : World) (hl : ps.length ≤ 1048576) (h : PuzIn w v t p ps) :
    Calls Try.prog 33 #[v] w (fun e w' => e = .returned (.tuple #[.int .i64 ((solR t p ps).length : Nat), .bool (pzB t p ps)]) ∧ Below w.heap.size w w') := by
  have HA := Lib.hid (fun W (hb : Below w.heap.size w W) => iSolutions t p ps v W hl (h.kept hb))
  obtain ⟨a, c, rfl, _, hx⟩ := h.cl
  clear h hx hl
  have HB := Lib.hid (below_new w (.cells #[.int .i64 t, .int .i64 p, .slice a ps.length c] 38))
  generalize solR t p ps = l at HA ⊢
  generalize pzB t p ps = ok at HA ⊢
  go_enter Try.func33, Try.ntmps33
  go_wp2_with fail
  refine (HA.out _ HB.out).mono ?_
  rintro e w2 ⟨v2, rfl, hr, hb2⟩
  have HB2 := Lib.hid (HB.out.trans (hb2.mono HB.out.size))
  obtain ⟨_, a2, c2, rfl, _⟩ := hr
  clear hb2
  go_wp2_with fail
  go_ret2
  exact ⟨rfl, HB2.out⟩

theorem pzSolved_any (t p : Int) (ps : List Pt) (a : Option Addr) (c : Nat) (w : World) (hg : goodB t p = true) (hcl : ps.all clB = true) (hl : ps.length ≤ 6) (hx : ClIn w a ps) :
    Calls Try.prog 65 #[.agg #[.int .i64 t, .int .i64 p], .slice a ps.length c] w fun e w' => e = .returned (.bool (decide ((solA t p ps).length = 1))) ∧ Below w.heap.size w w' := by
  have HA := Lib.hid (fun W (hb : Below w.heap.size w W) => pzAll_any t p ps a c W hg hcl hl (hx.keep hb))
  have HB := Lib.hid (below_new w (.cells #[.int .i64 t, .int .i64 p] 35))
  generalize solA t p ps = l at HA ⊢
  have HE : Hid (((l.length : Int) == 1) = decide (l.length = 1)) := Lib.hid (by rw [Bool.eq_iff_iff]; simp; omega)
  clear hg hcl hl hx
  go_enter Try.func65, Try.ntmps65
  go_wp2_with fail
  refine (HA.out _ HB.out).mono ?_
  rintro e w2 ⟨v2, rfl, hr, hb2⟩
  have HB2 := Lib.hid (HB.out.trans (hb2.mono HB.out.size))
  obtain ⟨a2, c2, rfl⟩ := hr.form
  clear hb2 hr
  go_wp2_with fail
  go_ret
  exact ⟨ret_bool (by first | exact HE.out | (rw [← HE.out]; rfl) | (rw [← HE.out]; simp)), HB2.out⟩

set_option maxHeartbeats 2000000 in
theorem sIsSolved (t p : Int) (ps : List Pt) (v : Value) (w : World) (hl : ps.length ≤ 1048576) (h : PuzIn w v t p ps) :
    Calls Try.prog 38 #[v] w (fun e w' => e = .returned (.tuple #[.bool (decide ((solR t p ps).length = 1)), .bool (pzB t p ps)]) ∧ Below w.heap.size w w') := by
  have HG := Lib.hid (fun W (hb : Below w.heap.size w W) => pzGood_any t p ps v W hl (h.kept hb))
  obtain ⟨a, c, rfl, _, hx⟩ := h.cl
  clear h
  have HB := Lib.hid (below_new w (.cells #[.int .i64 t, .int .i64 p, .slice a ps.length c] 38))
  have B := Lib.hid (Bz.new w t p (.slice a ps.length c) 38)
  cases hg : pzB t p ps
  · have HS := Lib.hid (solR_no hg)
    rw [hg] at HG
    rw [HS.out]
    clear hx hl hg
    go_enter Try.func38, Try.ntmps38
    go_wp2_with fail
    refine (HG.out _ HB.out).mono ?_
    rintro e w1 ⟨rfl, hb1⟩
    have HB1 := Lib.hid (HB.out.trans (hb1.mono HB.out.size))
    obtain ⟨⟨p0, p1, p2⟩, p3⟩ := (B.out.kept hb1)
    clear hb1
    go_wp2_with fail
    go_ret2
    exact ⟨rfl, HB1.out⟩
  · have HS := Lib.hid (solR_yes hg)
    obtain ⟨g1, g2, g3⟩ := pzB_iff.1 hg
    have HA := Lib.hid (fun W (hb : Below w.heap.size w W) => pzSolved_any t p ps a c W g1 g3 g2 (hx.keep hb))
    rw [hg] at HG
    rw [HS.out]
    clear g1 g2 g3
    generalize decide ((solA t p ps).length = 1) = r at HA ⊢
    clear hx hl hg
    go_enter Try.func38, Try.ntmps38
    go_wp2_with fail
    refine (HG.out _ HB.out).mono ?_
    rintro e w1 ⟨rfl, hb1⟩
    have HB1 := Lib.hid (HB.out.trans (hb1.mono HB.out.size))
    obtain ⟨⟨p0, p1, p2⟩, p3⟩ := (B.out.kept hb1)
    clear hb1
    go_wp2_with fail
    refine (HA.out _ HB1.out).mono ?_
    rintro e w2 ⟨rfl, hb2⟩
    have HB2 := Lib.hid (HB1.out.trans (hb2.mono HB1.out.size))
    clear hb2
    go_wp2_with fail
    go_ret2
    exact ⟨rfl, HB2.out⟩

theorem iIsSolved (t p : Int) (ps : List Pt) (v : Value) (w : World) (hl : ps.length ≤ 1048576) (h : PuzIn w v t p ps) :
    Calls Try.prog 39 #[v] w (fun e w' => e = .returned (.tuple #[.bool (decide ((solR t p ps).length = 1)), .bool (pzB t p ps)]) ∧ Below w.heap.size w w') := by
  have HA := Lib.hid (fun W (hb : Below w.heap.size w W) => iCountSolutions t p ps v W hl (h.kept hb))
  obtain ⟨a, c, rfl, _, hx⟩ := h.cl
  clear h hx hl
  have HB := Lib.hid (below_new w (.cells #[.int .i64 t, .int .i64 p, .slice a ps.length c] 38))
  generalize solR t p ps = l at HA ⊢
  generalize pzB t p ps = ok at HA ⊢
  have HE : Hid (((l.length : Int) == 1) = decide (l.length = 1)) := Lib.hid (by rw [Bool.eq_iff_iff]; simp; omega)
  rw [← HE.out]
  go_enter Try.func39, Try.ntmps39
  go_wp2_with fail
  refine (HA.out _ HB.out).mono ?_
  rintro e w2 ⟨rfl, hb2⟩
  have HB2 := Lib.hid (HB.out.trans (hb2.mono HB.out.size))
  clear hb2
  go_wp2_with fail
  go_ret2
  exact ⟨rfl, HB2.out⟩
end Go.Proofs.Ytheailbbnmblnaa
