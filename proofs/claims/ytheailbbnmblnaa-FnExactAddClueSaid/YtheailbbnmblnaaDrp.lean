/-
  'DropClue' of both.
-/
import Derived.Test.YtheailbbnmblnaaRtZ
namespace Go.Proofs.Ytheailbbnmblnaa
open Go.RowKit
set_option linter.unusedVariables false

/-- Does DropClue succeed? -/
def dcB (t p : Int) (ps : List Pt) (k : Int) : Bool := pzB t p ps && inB k 0 ((ps.length : Int) - 1)
def dcX (t p : Int) (ps : List Pt) (k : Int) : List Pt := if dcB t p ps k = true then clW ps k.toNat else []
theorem dcX_len (t p : Int) (ps : List Pt) (k : Int) : (dcX t p ps k).length ≤ 1048576 := by
  unfold dcX
  split
  · rename_i h
    unfold dcB at h
    rw [Bool.and_eq_true] at h
    have h1 := (pzB_iff.1 h.1).2.1
    have h2 : 0 ≤ k ∧ k ≤ (ps.length : Int) - 1 := by simpa [inB] using h.2
    rw [clW_length (by omega)]
    omega
  · simp

set_option maxRecDepth 100000 in
set_option maxHeartbeats 8000000 in
theorem sDropClue (t p : Int) (ps : List Pt) (k : Int) (v : Value) (w : World) (hl : ps.length ≤ 1048576) (h : PuzIn w v t p ps) :
    Calls Try.prog 40 #[v, .int .i64 k] w (RetPuz (ifT (dcB t p ps k) t) (ifT (dcB t p ps k) p) (dcX t p ps k) (dcB t p ps k) w) := by
  have HG := Lib.hid (fun W (hb : Below w.heap.size w W) => pzGood_any t p ps v W hl (h.kept hb))
  obtain ⟨a, c, rfl, hcap, hx⟩ := h.cl
  clear h
  obtain ⟨K, hK⟩ : ∃ K, ps.length = K := ⟨_, rfl⟩
  have hK2 : (K : Int) ≤ 1048576 := by omega
  have HKK := Lib.hid hK
  have HB0 : Hid (Below w.heap.size w ((w.alloc (.cells #[.int .i64 t, .int .i64 p, .slice a K c] 38)).alloc (.cells #[.int .i64 0, .int .i64 0, .slice none 0 0] 38))) := Lib.hid ((below_new w _).alloc (by simp) _)
  have B0 : Hid (Bz ((w.alloc (.cells #[.int .i64 t, .int .i64 p, .slice a K c] 38)).alloc (.cells #[.int .i64 0, .int .i64 0, .slice none 0 0] 38)) w.heap.size t p (.slice a K c)) := Lib.hid ((Bz.new _ _ _ _ _).grow _)
  have R0 : Hid (BzF ((w.alloc (.cells #[.int .i64 t, .int .i64 p, .slice a K c] 38)).alloc (.cells #[.int .i64 0, .int .i64 0, .slice none 0 0] 38)) (w.heap.size + 1) 0 0 (.slice none 0 0)) := Lib.hid (BzF.new _ _ _ _ _ (by simp))
  have HD : Hid (dcB t p ps k = (pzB t p ps && inB k 0 ((K : Int) - 1))) := Lib.hid (by unfold dcB; rw [hK])
  have HX : Hid (dcX t p ps k = if dcB t p ps k = true then clW ps k.toNat else []) := Lib.hid rfl
  cases hg : pzB t p ps
  case false =>
    have HF : Hid (dcB t p ps k = false) := Lib.hid (by rw [HD.out, hg]; rfl)
    have HXF : Hid (dcX t p ps k = []) := Lib.hid (by rw [HX.out, HF.out]; rfl)
    rw [HXF.out, HF.out]
    rw [hg] at HG
    rw [hK] at HG ⊢
    clear hx hcap hl hg hK HD HX
    go_enter Try.func40, Try.ntmps40
    go_wp2_with (first | (go_at_call 52; refine (HG.out _ HB0.out).mono ?_; rintro e w1 ⟨rfl, hb1⟩; have B1 := Lib.hid (B0.out.kept hb1); have R1 := Lib.hid (R0.out.kept hb1); have HB1 := Lib.hid (HB0.out.trans (hb1.mono HB0.out.size)); clear hb1; obtain ⟨⟨p0, p1, p2⟩, p3⟩ := B1.out; obtain ⟨r0, r1, r2, f0, f1, f2⟩ := R1.out.cells) | (go_at_call 66; refine (l1In_any _ _ _ _).mono ?_; rintro e w' ⟨rfl, rfl⟩))
    obtain ⟨c0, c1, c2⟩ := put3_cells R1.out 0 0 (.slice none 0 0)
    unfold put3 at c0 c1 c2
    refine bodyPost_ret (v := .tuple #[.agg #[.int .i64 0, .int .i64 0, .slice none 0 0], .bool false]) (by simp [results, Try.f40, go_sem, c0, c1, c2]) rfl ⟨_, rfl, ?_, ?_⟩
    · exact (puz_none HB1.out (Nat.le_succ _)).1
    · exact (puz_none HB1.out (Nat.le_succ _)).2
  case true =>
  cases hin : inB k 0 ((K : Int) - 1)
  case false =>
    have HF : Hid (dcB t p ps k = false) := Lib.hid (by rw [HD.out, hg, hin]; rfl)
    have HXF : Hid (dcX t p ps k = []) := Lib.hid (by rw [HX.out, HF.out]; rfl)
    rw [HXF.out, HF.out]
    rw [hg] at HG
    rw [hK] at HG ⊢
    clear hx hcap hl hg hK HD HX
    go_enter Try.func40, Try.ntmps40
    go_wp2_with (first | (go_at_call 52; refine (HG.out _ HB0.out).mono ?_; rintro e w1 ⟨rfl, hb1⟩; have B1 := Lib.hid (B0.out.kept hb1); have R1 := Lib.hid (R0.out.kept hb1); have HB1 := Lib.hid (HB0.out.trans (hb1.mono HB0.out.size)); clear hb1; obtain ⟨⟨p0, p1, p2⟩, p3⟩ := B1.out; obtain ⟨r0, r1, r2, f0, f1, f2⟩ := R1.out.cells) | (go_at_call 66; refine (l1In_any _ _ _ _).mono ?_; rintro e w' ⟨rfl, rfl⟩))
    obtain ⟨c0, c1, c2⟩ := put3_cells R1.out 0 0 (.slice none 0 0)
    unfold put3 at c0 c1 c2
    refine bodyPost_ret (v := .tuple #[.agg #[.int .i64 0, .int .i64 0, .slice none 0 0], .bool false]) (by simp [results, Try.f40, go_sem, c0, c1, c2]) rfl ⟨_, rfl, ?_, ?_⟩
    · exact (puz_none HB1.out (Nat.le_succ _)).1
    · exact (puz_none HB1.out (Nat.le_succ _)).2
  case true =>
    have hk0 : 0 ≤ k ∧ k ≤ (K : Int) - 1 := by simpa [inB] using hin
    obtain ⟨kn, rfl⟩ : ∃ kn : Nat, k = kn := ⟨k.toNat, by omega⟩
    obtain ⟨g1, g2, g3⟩ := pzB_iff.1 hg
    have hkn : kn < ps.length := by omega
    have HWO := Lib.hid (fun W (hb : Below w.heap.size w W) => pzWithout_any ps kn a c W g2 hkn hcap (hx.keep hb))
    have HF : Hid (dcB t p ps kn = true) := Lib.hid (by rw [HD.out, hg, hin]; rfl)
    have HXF : Hid (dcX t p ps kn = clW ps kn) := Lib.hid (by rw [HX.out, HF.out]; rfl)
    have HT : Hid (∀ x, ifT true x = x) := Lib.hid (fun x => rfl)
    rw [HXF.out, HF.out, HT.out, HT.out]
    rw [hg] at HG
    rw [hK] at HG HWO ⊢
    have hkn2 : (kn : Int) < (K : Int) := by omega
    have hkn3 : ¬ ((kn : Int) < 0) := by omega
    have hkn4 : ¬ ((K : Int) ≤ (kn : Int)) := by omega
    generalize clW ps kn = xs at HWO ⊢
    clear hx hcap hl hg hK HD HX g1 g2 g3 hkn hk0
    go_enter Try.func40, Try.ntmps40
    go_wp2_with (first | (go_at_call 52; refine (HG.out _ HB0.out).mono ?_; rintro e w1 ⟨rfl, hb1⟩; have B1 := Lib.hid (B0.out.kept hb1); have R1 := Lib.hid (R0.out.kept hb1); have HB1 := Lib.hid (HB0.out.trans (hb1.mono HB0.out.size)); clear hb1; obtain ⟨⟨p0, p1, p2⟩, p3⟩ := B1.out; obtain ⟨r0, r1, r2, f0, f1, f2⟩ := R1.out.cells) | (go_at_call 66; refine (l1In_any _ _ _ _).mono ?_; rintro e w' ⟨rfl, rfl⟩))
    go_region_held3 (fun w' => w'.cell? ⟨w.heap.size, 0, none⟩ = some (.int .i64 t) ∧ w'.cell? ⟨w.heap.size, 1, none⟩ = some (.int .i64 p) ∧ w'.cell? ⟨w.heap.size, 2, none⟩ = some (.slice a K c)) (go_keep)
      ((go_at_call 67; refine (HWO.out _ (by first | exact HB1.out | exact HB1.out.drew | exact HB1.out.drew.drew)).mono ?_; rintro e w5 ⟨v5, rfl, hv5, hb5⟩; have hb15 : Below w1.heap.size w1 w5 := (by first | exact hb5 | exact (Below.refl _ _).drew.trans hb5 | exact (Below.refl _ _).drew.drew.trans hb5); have B5 := Lib.hid (B1.out.kept hb15); have R5 := Lib.hid (R1.out.kept hb15); have HB5 := Lib.hid (HB1.out.trans (hb15.mono HB1.out.size)); have HV5 : Hid (ClsAt w5 w1.heap.size v5 xs) := Lib.hid hv5; clear hv5 hb5 hb15; obtain ⟨⟨s0, s1, s2⟩, s3⟩ := B5.out; obtain ⟨t0, t1, t2, u0, u1, u2⟩ := R5.out.cells; obtain ⟨a5, c5, e5, _⟩ := HV5.out.row; subst e5))
    all_goals
      go_wp2_with fail
      have hlt : w.heap.size + 1 < w1.heap.size := R1.out.1.2
      obtain ⟨c0, c1, c2⟩ := put3_cells R5.out t p (.slice a5 xs.length c5)
      unfold put3 at c0 c1 c2
      obtain ⟨_, _, _, hpz, hbl⟩ := puz_leaf (t := t) (p := p) HV5.out HB5.out (Nat.le_succ _) hlt
      refine bodyPost_ret (v := .tuple #[.agg #[.int .i64 t, .int .i64 p, .slice a5 xs.length c5], .bool true]) (by simp [results, Try.f40, go_sem, c0, c1, c2]) rfl ⟨_, rfl, ?_, ?_⟩
      · exact hpz
      · first | exact hbl | exact hbl.drew

set_option maxRecDepth 100000 in
set_option maxHeartbeats 8000000 in
theorem iDropClue (t p : Int) (ps : List Pt) (k : Int) (v : Value) (w : World) (hl : ps.length ≤ 1048576) (h : PuzIn w v t p ps) :
    Calls Try.prog 41 #[v, .int .i64 k] w (RetPuz (ifT (dcB t p ps k) t) (ifT (dcB t p ps k) p) (dcX t p ps k) (dcB t p ps k) w) := by
  have HG := Lib.hid (fun W (hb : Below w.heap.size w W) => isPuzzle_any t p ps v W hl (h.kept hb))
  obtain ⟨a, c, rfl, hcap, hx⟩ := h.cl
  clear h
  obtain ⟨K, hK⟩ : ∃ K, ps.length = K := ⟨_, rfl⟩
  have hK2 : (K : Int) ≤ 1048576 := by omega
  have HKK := Lib.hid hK
  have HB0 : Hid (Below w.heap.size w ((w.alloc (.cells #[.int .i64 t, .int .i64 p, .slice a K c] 38)).alloc (.cells #[.int .i64 0, .int .i64 0, .slice none 0 0] 38))) := Lib.hid ((below_new w _).alloc (by simp) _)
  have B0 : Hid (Bz ((w.alloc (.cells #[.int .i64 t, .int .i64 p, .slice a K c] 38)).alloc (.cells #[.int .i64 0, .int .i64 0, .slice none 0 0] 38)) w.heap.size t p (.slice a K c)) := Lib.hid ((Bz.new _ _ _ _ _).grow _)
  have R0 : Hid (BzF ((w.alloc (.cells #[.int .i64 t, .int .i64 p, .slice a K c] 38)).alloc (.cells #[.int .i64 0, .int .i64 0, .slice none 0 0] 38)) (w.heap.size + 1) 0 0 (.slice none 0 0)) := Lib.hid (BzF.new _ _ _ _ _ (by simp))
  have HD : Hid (dcB t p ps k = (pzB t p ps && inB k 0 ((K : Int) - 1))) := Lib.hid (by unfold dcB; rw [hK])
  have HX : Hid (dcX t p ps k = if dcB t p ps k = true then clW ps k.toNat else []) := Lib.hid rfl
  cases hg : pzB t p ps
  case false =>
    have HF : Hid (dcB t p ps k = false) := Lib.hid (by rw [HD.out, hg]; rfl)
    have HXF : Hid (dcX t p ps k = []) := Lib.hid (by rw [HX.out, HF.out]; rfl)
    rw [HXF.out, HF.out]
    rw [hg] at HG
    rw [hK] at HG ⊢
    clear hx hcap hl hg hK HD HX
    go_enter Try.func41, Try.ntmps41
    go_wp2_with ((go_at_call 21; refine (HG.out _ HB0.out).mono ?_; rintro e w1 ⟨rfl, hb1⟩; have B1 := Lib.hid (B0.out.kept hb1); have R1 := Lib.hid (R0.out.kept hb1); have HB1 := Lib.hid (HB0.out.trans (hb1.mono HB0.out.size)); clear hb1; obtain ⟨⟨p0, p1, p2⟩, p3⟩ := B1.out; obtain ⟨r0, r1, r2, f0, f1, f2⟩ := R1.out.cells))
    obtain ⟨c0, c1, c2⟩ := put3_cells R1.out 0 0 (.slice none 0 0)
    unfold put3 at c0 c1 c2
    refine bodyPost_ret (v := .tuple #[.agg #[.int .i64 0, .int .i64 0, .slice none 0 0], .bool false]) (by simp [results, Try.f41, go_sem, c0, c1, c2]) rfl ⟨_, rfl, ?_, ?_⟩
    · exact (puz_none HB1.out (Nat.le_succ _)).1
    · exact (puz_none HB1.out (Nat.le_succ _)).2
  case true =>
  cases hin : inB k 0 ((K : Int) - 1)
  case false =>
    have HF : Hid (dcB t p ps k = false) := Lib.hid (by rw [HD.out, hg, hin]; rfl)
    have HXF : Hid (dcX t p ps k = []) := Lib.hid (by rw [HX.out, HF.out]; rfl)
    have hor : k < 0 ∨ (K : Int) ≤ k := by
      by_cases h0 : k < 0
      · exact .inl h0
      · refine .inr ?_
        simp [inB] at hin
        have := hin (by omega)
        omega
    rw [HXF.out, HF.out]
    rw [hg] at HG
    rw [hK] at HG ⊢
    clear hx hcap hl hg hK HD HX hin
    by_cases hneg : k < 0
    · clear hor
      go_enter Try.func41, Try.ntmps41
      go_wp2_with ((go_at_call 21; refine (HG.out _ HB0.out).mono ?_; rintro e w1 ⟨rfl, hb1⟩; have B1 := Lib.hid (B0.out.kept hb1); have R1 := Lib.hid (R0.out.kept hb1); have HB1 := Lib.hid (HB0.out.trans (hb1.mono HB0.out.size)); clear hb1; obtain ⟨⟨p0, p1, p2⟩, p3⟩ := B1.out; obtain ⟨r0, r1, r2, f0, f1, f2⟩ := R1.out.cells))
      obtain ⟨c0, c1, c2⟩ := put3_cells R1.out 0 0 (.slice none 0 0)
      unfold put3 at c0 c1 c2
      refine bodyPost_ret (v := .tuple #[.agg #[.int .i64 0, .int .i64 0, .slice none 0 0], .bool false]) (by simp [results, Try.f41, go_sem, c0, c1, c2]) rfl ⟨_, rfl, ?_, ?_⟩
      · exact (puz_none HB1.out (Nat.le_succ _)).1
      · exact (puz_none HB1.out (Nat.le_succ _)).2

    · have hge : (K : Int) ≤ k := by omega
      clear hor
      go_enter Try.func41, Try.ntmps41
      go_wp2_with ((go_at_call 21; refine (HG.out _ HB0.out).mono ?_; rintro e w1 ⟨rfl, hb1⟩; have B1 := Lib.hid (B0.out.kept hb1); have R1 := Lib.hid (R0.out.kept hb1); have HB1 := Lib.hid (HB0.out.trans (hb1.mono HB0.out.size)); clear hb1; obtain ⟨⟨p0, p1, p2⟩, p3⟩ := B1.out; obtain ⟨r0, r1, r2, f0, f1, f2⟩ := R1.out.cells))
      obtain ⟨c0, c1, c2⟩ := put3_cells R1.out 0 0 (.slice none 0 0)
      unfold put3 at c0 c1 c2
      refine bodyPost_ret (v := .tuple #[.agg #[.int .i64 0, .int .i64 0, .slice none 0 0], .bool false]) (by simp [results, Try.f41, go_sem, c0, c1, c2]) rfl ⟨_, rfl, ?_, ?_⟩
      · exact (puz_none HB1.out (Nat.le_succ _)).1
      · exact (puz_none HB1.out (Nat.le_succ _)).2
  case true =>
    have hk0 : 0 ≤ k ∧ k ≤ (K : Int) - 1 := by simpa [inB] using hin
    obtain ⟨kn, rfl⟩ : ∃ kn : Nat, k = kn := ⟨k.toNat, by omega⟩
    obtain ⟨g1, g2, g3⟩ := pzB_iff.1 hg
    have hkn : kn < ps.length := by omega
    have HWO := Lib.hid (fun W (hb : Below w.heap.size w W) => cluesWithout_any t p ps kn a c W g2 hkn hcap (hx.keep hb))
    have HF : Hid (dcB t p ps kn = true) := Lib.hid (by rw [HD.out, hg, hin]; rfl)
    have HXF : Hid (dcX t p ps kn = clW ps kn) := Lib.hid (by rw [HX.out, HF.out]; rfl)
    have HT : Hid (∀ x, ifT true x = x) := Lib.hid (fun x => rfl)
    rw [HXF.out, HF.out, HT.out, HT.out]
    rw [hg] at HG
    rw [hK] at HG HWO ⊢
    have hkn2 : (kn : Int) < (K : Int) := by omega
    have hkn3 : ¬ ((kn : Int) < 0) := by omega
    have hkn4 : ¬ ((K : Int) ≤ (kn : Int)) := by omega
    generalize clW ps kn = xs at HWO ⊢
    clear hx hcap hl hg hK HD HX g1 g2 g3 hkn hk0
    go_enter Try.func41, Try.ntmps41
    go_wp2_with ((go_at_call 21; refine (HG.out _ HB0.out).mono ?_; rintro e w1 ⟨rfl, hb1⟩; have B1 := Lib.hid (B0.out.kept hb1); have R1 := Lib.hid (R0.out.kept hb1); have HB1 := Lib.hid (HB0.out.trans (hb1.mono HB0.out.size)); clear hb1; obtain ⟨⟨p0, p1, p2⟩, p3⟩ := B1.out; obtain ⟨r0, r1, r2, f0, f1, f2⟩ := R1.out.cells))
    go_region_held3 (fun w' => w'.cell? ⟨w.heap.size, 0, none⟩ = some (.int .i64 t) ∧ w'.cell? ⟨w.heap.size, 1, none⟩ = some (.int .i64 p) ∧ w'.cell? ⟨w.heap.size, 2, none⟩ = some (.slice a K c)) (go_keep)
      ((go_at_call 68; refine (HWO.out _ (by first | exact HB1.out | exact HB1.out.drew | exact HB1.out.drew.drew)).mono ?_; rintro e w5 ⟨v5, rfl, hv5, hb5⟩; have hb15 : Below w1.heap.size w1 w5 := (by first | exact hb5 | exact (Below.refl _ _).drew.trans hb5 | exact (Below.refl _ _).drew.drew.trans hb5); have B5 := Lib.hid (B1.out.kept hb15); have R5 := Lib.hid (R1.out.kept hb15); have HB5 := Lib.hid (HB1.out.trans (hb15.mono HB1.out.size)); have HV5 : Hid (ClsAt w5 w1.heap.size v5 xs) := Lib.hid hv5; clear hv5 hb5 hb15; obtain ⟨⟨s0, s1, s2⟩, s3⟩ := B5.out; obtain ⟨t0, t1, t2, u0, u1, u2⟩ := R5.out.cells; obtain ⟨a5, c5, e5, _⟩ := HV5.out.row; subst e5))
    all_goals
      go_wp2_with fail
      have hlt : w.heap.size + 1 < w1.heap.size := R1.out.1.2
      obtain ⟨c0, c1, c2⟩ := put3_cells R5.out t p (.slice a5 xs.length c5)
      unfold put3 at c0 c1 c2
      obtain ⟨_, _, _, hpz, hbl⟩ := puz_leaf (t := t) (p := p) HV5.out HB5.out (Nat.le_succ _) hlt
      refine bodyPost_ret (v := .tuple #[.agg #[.int .i64 t, .int .i64 p, .slice a5 xs.length c5], .bool true]) (by simp [results, Try.f41, go_sem, c0, c1, c2]) rfl ⟨_, rfl, ?_, ?_⟩
      · exact hpz
      · first | exact hbl | exact hbl.drew
end Go.Proofs.Ytheailbbnmblnaa
