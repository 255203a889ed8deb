/-
  'Concat' of two rows of clues, 'cluesWithout' of the program.
-/
import Derived.Test.YtjnghlnhogalbaaClR
namespace Go.Proofs.Ytjnghlnhogalbaa
open Go.RowKit
set_option linter.unusedVariables false

set_option maxRecDepth 100000 in
theorem growC_zero (w : World) : Calls Try.prog 108 #[.slice none 0 0, .int .i64 0] w fun e w' => e = .returned (.slice none 0 0) ∧ w = w' := by
  go_enter Try.func108, Try.ntmps108
  go_wp2_with fail
  go_ret
  exact ⟨rfl, rfl⟩
theorem growC_all (n : Nat) (h6 : n ≤ 6) (w : World) :
    Calls Try.prog 108 #[.slice none 0 0, .int .i64 (n : Int)] w fun e w' => ∃ v, e = .returned v ∧ ClsAt w' w.heap.size v [] ∧ Below w.heap.size w w' := by
  by_cases h0 : n = 0
  · subst h0
    refine (growC_zero w).mono ?_
    rintro e w' ⟨rfl, rfl⟩
    exact ⟨_, rfl, clsAt_nil _ _, Below.refl _ _⟩
  · refine (growC_any n (by omega) h6 w).mono ?_
    rintro e w' ⟨c, rfl, h1, h2⟩
    exact ⟨_, rfl, h1, h2⟩

/-- The first r of some rows, one behind the other. -/
def accP (P : Nat → List Pt) : Nat → List Pt
  | 0 => []
  | r + 1 => accP P r ++ P r

set_option maxRecDepth 100000 in
set_option maxHeartbeats 8000000 in
theorem concat_any (P : Nat → List Pt) (bx : Nat) (w : World) (hbx : bx < w.heap.size) (hl : (accP P 2).length ≤ 6)
    (hP : ∀ r, r < 2 → ∃ b off c, w.cell? ⟨bx, r, none⟩ = some (.slice (some ⟨b, off, none⟩) (P r).length c) ∧ ClIn w (some ⟨b, off, none⟩) (P r)) :
    Calls Try.prog 85 #[.slice (some ⟨bx, 0, none⟩) 2 2] w (RetCls (accP P 2) w) := by
  obtain ⟨i0, hi, hi0, hi1, hi2⟩ := info_parts infoCl
  have HP : Hid (∀ r, r < 2 → ∃ b off c, w.cell? ⟨bx, r, none⟩ = some (.slice (some ⟨b, off, none⟩) (P r).length c) ∧ (∀ W, Below w.heap.size w W → ∀ j u, (ptCells (P r))[j]? = some u → W.cell? ((⟨b, off, none⟩ : Addr).add j) = some u)) := Lib.hid (fun r hr => by
    obtain ⟨b, off, c, h1, h2⟩ := hP r hr
    exact ⟨b, off, c, h1, fun W hb => clCells_src (h2.keep hb)⟩)
  have HLEN : Hid (∀ r, r < 2 → (accP P (r + 1)).length = (accP P r).length + (P r).length ∧ (accP P r).length + (P r).length ≤ 6) := Lib.hid (fun r hr => by
    have e2 : (accP P 2).length = (accP P 1).length + (P 1).length := by show (accP P 1 ++ P 1).length = _; simp
    have e1 : (accP P 1).length = (accP P 0).length + (P 0).length := by show (accP P 0 ++ P 0).length = _; simp
    have : r = 0 ∨ r = 1 := by omega
    rcases this with rfl | rfl
    · exact ⟨e1, by omega⟩
    · exact ⟨e2, by omega⟩)
  have HL2 := Lib.hid hl
  have HCL : Hid (∀ r, (ptCells (P r)).length = (P r).length * 3) := Lib.hid (fun r => ptCells_length _)
  have HC1 : Hid (∀ r, ∀ u ∈ ptCells (P r), u.oneCell' = true) := Lib.hid (fun r => ptCells_one _)
  have HAPP : Hid (∀ r, ptCells (accP P (r + 1)) = ptCells (accP P r) ++ ptCells (P r)) := Lib.hid (fun r => ptCells_append _ _)
  have H0 : Hid ((accP P 0).length = 0) := Lib.hid rfl
  clear hP hl
  go_enter Try.func85, Try.ntmps85
  go_wp2_with fail
  go_loop [3, 11] (fun s i => ∃ r : Nat, r ≤ 2 ∧ i = .int .i64 r ∧ s = .int .i64 ((accP P r).length : Nat)) (fun _ i => 2 - (intOf i).toNat)
  case atStart => exact ⟨0, by omega, rfl, rfl⟩
  case round =>
    obtain ⟨r, hr, rfl, rfl⟩ := hrel
    by_cases hlt : r < 2
    · obtain ⟨b, off, c, q, _⟩ := HP.out r hlt
      obtain ⟨e1, e2⟩ := HLEN.out r hlt
      have HE := Lib.hid e1
      have hlt2 : (r : Int) < 2 := by omega
      obtain ⟨x, hx⟩ : ∃ x, (accP P r).length = x := ⟨_, rfl⟩
      obtain ⟨y, hy⟩ : ∃ y, (P r).length = y := ⟨_, rfl⟩
      rw [hx, hy] at HE e2
      rw [hy] at q
      rw [hx]
      have hs0 : ¬ ((x : Int) + (y : Int) < 0) := by omega
      have hs1 : (x : Int) + (y : Int) ≤ 6 := by omega
      have hs2 : (0 : Int) ≤ (x : Int) + (y : Int) := by omega
      clear hx hy e1
      go_wp2_with fail
      exact ⟨⟨r + 1, hlt, by go_num, by rw [HE.out]; go_num⟩, by simp [intOf]; omega⟩
    · have HR : Hid (r = 2) := Lib.hid (by omega)
      have hlt2 : ¬ ((r : Int) < 2) := by omega
      have HG := Lib.hid (fun W => growC_all (accP P r).length (by rw [HR.out]; exact HL2.out) W)
      obtain ⟨x, hx⟩ : ∃ x, (accP P r).length = x := ⟨_, rfl⟩
      rw [hx] at HG ⊢
      clear hx hlt hr
      go_wp2_with fail
      refine (HG.out _).mono ?_
      rintro e w1 ⟨v1, rfl, hv1, hb1⟩
      have HV1 := Lib.hid hv1
      have HB1 := Lib.hid hb1
      clear hv1 hb1
      go_wp2_with fail
      go_loopw [6, 27] (fun v i wr => ∃ r : Nat, r ≤ 2 ∧ i = .int .i64 r ∧ ClsAt wr w.heap.size v (accP P r) ∧ Below w.heap.size w wr) (fun _ i _ => 2 - (intOf i).toNat)
      case atStart => exact ⟨0, by omega, rfl, HV1.out, HB1.out⟩
      case round =>
        obtain ⟨r, hr, rfl, hv, hbel⟩ := hrel
        by_cases hlt : r < 2
        · obtain ⟨b, off, c, q, hsrc⟩ := HP.out r hlt
          obtain ⟨e1, e2⟩ := HLEN.out r hlt
          have q2 := (hbel.cell (p := ⟨bx, r, none⟩) hbx).trans q
          have HE := Lib.hid e1
          have HV := Lib.hid hv
          have HB := Lib.hid hbel
          have HSRC := Lib.hid (hsrc wr hbel)
          have hltr : (r : Int) < 2 := by omega
          have hsz := hbel.size
          have hl3 := HCL.out r
          have hj1 : (accP P r).length + (P r).length ≤ maxLen := by unfold maxLen; omega
          have hj2 : ((accP P r).length + (P r).length) * 24 ≤ 140737488355328 := by omega
          have HONE := Lib.hid (HC1.out r)
          have HL3 := Lib.hid hl3
          clear q hv hbel hsrc e1 hl3
          go_wp2_with (at_builtin; refine wpList_append_own _ rfl _ _ 32 rfl w.heap.size 85 i0 (.agg #[.int .i64 0, .int .i64 0, .int .i64 0]) 3 24 Try.underlying32 hi hi0 hi1 hi2 rfl (by decide) _ _ _ rfl HV.out ⟨b, off, none⟩ _ _ (ptCells (P r)) rfl HL3.out HSRC.out HONE.out hj1 hj2 hsz ?_; intro v5 w5 hown5 hgrow5 _)
          refine ⟨⟨r + 1, hlt, by go_num, ?_, HB.out.trans ((Below.refl w.heap.size wr).grown hgrow5 hsz (fun k e => (World.ownsRow.lt HV.out k e).1))⟩, by simp [intOf]; omega⟩
          unfold ClsAt
          rw [HE.out, HAPP.out]
          exact hown5
        · have HR2 : Hid (r = 2) := Lib.hid (by omega)
          have hlt3 : ¬ ((r : Int) < 2) := by omega
          have HV := Lib.hid hv
          have HB := Lib.hid hbel
          clear hv hbel hlt hr
          go_wp2_with fail
          go_ret
          exact ⟨_, rfl, by have := HV.out; rw [HR2.out] at this; exact this, HB.out⟩

set_option maxRecDepth 100000 in
set_option maxHeartbeats 8000000 in
theorem cluesWithout_a (t p : Int) (ps : List Pt) (k b off : Nat) (w : World) (hl : ps.length ≤ 6) (hk : ps.length = k + 1) (hx : ClIn w (some ⟨b, off, none⟩) ps) :
    Calls Try.prog 43 #[.agg #[.int .i64 t, .int .i64 p, .slice (some ⟨b, off, none⟩) ps.length (k + 1)], .int .i64 (k : Int)] w (RetCls (clW ps k) w) := by
  have hx1 := hx.take k
  have hx2 : ClIn w (some ⟨b, off, none⟩) (ps.drop (k + 1)) := by rw [List.drop_eq_nil_of_le (by omega)]; exact ClIn.nil _ _
  have hk2 : (k : Int) ≤ 5 := by omega
  have hwk : IntKind.i64.wrap ((k : Int) + 1) = (k : Int) + 1 := IntWalk.i64_in _ (by omega)
  have h15 : ((k : Int) + 1).toNat = k + 1 := by omega
  have hk1 : (k : Int) ≤ (k : Int) + 1 := by omega
  have hk3 : (0 : Int) ≤ (k : Int) + 1 := by omega
  have HCON : Hid (∀ W bx, Below w.heap.size w W → bx < W.heap.size → W.cell? ⟨bx, 0, none⟩ = some (.slice (some ⟨b, off, none⟩) k (k + 1)) → W.cell? ⟨bx, 1, none⟩ = some (.slice (some ⟨b, off, none⟩) 0 0) → Calls Try.prog 85 #[.slice (some ⟨bx, 0, none⟩) 2 2] W (RetCls (clW ps k) W)) := Lib.hid (fun W bx hb hbx c0 c1 => by
    have hlt : (ps.take k).length = k := by rw [List.length_take]; omega
    have hld : (ps.drop (k + 1)).length = 0 := by rw [List.length_drop]; omega
    have e : accP (fun r => if r = 0 then ps.take k else ps.drop (k + 1)) 2 = clW ps k := by simp [accP, clW]
    rw [← e]
    refine concat_any _ bx W hbx (by rw [e, clW_length (by omega)]; omega) (fun r hr => ?_)
    have : r = 0 ∨ r = 1 := by omega
    rcases this with rfl | rfl
    · exact ⟨b, off, (k + 1), by simp only [if_true]; rw [hlt]; exact c0, hx1.keep hb⟩
    · exact ⟨_, _, 0, by simp only [Nat.one_ne_zero, if_false]; rw [hld]; exact c1, hx2.keep hb⟩)
  clear hx1 hx2
  rw [hk]
  clear hx hl hk
  have HBX := Lib.hid (below_new w (.cells #[.int .i64 t, .int .i64 p, .slice (some ⟨b, off, none⟩) (k + 1) (k + 1)] 34))
  have q2 : (w.alloc (.cells #[.int .i64 t, .int .i64 p, .slice (some ⟨b, off, none⟩) (k + 1) (k + 1)] 34)).cell? ⟨w.heap.size, 2, none⟩ = some (.slice (some ⟨b, off, none⟩) (k + 1) (k + 1)) := by go_simp
  have hz1 : w.heap.size < (w.alloc (.cells #[.int .i64 t, .int .i64 p, .slice (some ⟨b, off, none⟩) (k + 1) (k + 1)] 34)).heap.size := by simp
  obtain ⟨W1, hW1⟩ : ∃ W1, w.alloc (.cells #[.int .i64 t, .int .i64 p, .slice (some ⟨b, off, none⟩) (k + 1) (k + 1)] 34) = W1 := ⟨_, rfl⟩
  rw [hW1] at HBX q2 hz1
  have hz2 : ¬ (W1.heap.size = w.heap.size) := by omega
  have hz3 : ¬ (w.heap.size = W1.heap.size) := by omega
  go_enter Try.func43, Try.ntmps43
  go_upto_region 1 with fail
  try rw [hW1]
  clear hW1
  go_region_held3 (fun w' => w'.cell? ⟨w.heap.size, 2, none⟩ = some (.slice (some ⟨b, off, none⟩) (k + 1) (k + 1))) (go_keep)
    ((go_at_call 85; refine (HCON.out _ W1.heap.size (HBX.out.trans (by first | exact (below_new W1 _).mono HBX.out.size | exact ((below_new W1 _).mono HBX.out.size).drew | exact ((Below.refl _ _).drew.trans (below_new W1.drew _)).mono HBX.out.size | exact (((Below.refl _ _).drew.trans (below_new W1.drew _)).mono HBX.out.size).drew)) (by simp) (by go_simp) (by go_simp)).mono ?_; rintro e w5 ⟨v5, rfl, hv5, hb5⟩; have HV5 := Lib.hid hv5; have HB5 := Lib.hid hb5; have s0 : w5.cell? ⟨w.heap.size, 2, none⟩ = some (.slice (some ⟨b, off, none⟩) (k + 1) (k + 1)) := (hb5.cell (p := ⟨w.heap.size, 2, none⟩) (by simp; omega)).trans (by go_simp); clear hv5 hb5))
  all_goals
    go_wp2_with fail
    go_ret
    refine ⟨_, rfl, ?_, ?_⟩
    · have hb := HB5.out.size
      have hz := HBX.out.size
      first
        | exact ownsRow_base HV5.out (by simp; omega)
        | exact ownsRow_base HV5.out.drew (by simp; omega)
    · first
        | exact HBX.out.trans (((below_new W1 _).trans (HB5.out.mono (by simp))).mono HBX.out.size)
        | exact HBX.out.trans (((below_new W1 _).drew.trans (HB5.out.mono (by simp))).mono HBX.out.size)
        | exact HBX.out.trans ((((Below.refl _ _).drew.trans (below_new W1.drew _)).trans (HB5.out.mono (by simp))).mono HBX.out.size)
        | exact (HBX.out.trans (((below_new W1 _).trans (HB5.out.mono (by simp))).mono HBX.out.size)).drew
        | exact (HBX.out.trans (((below_new W1 _).drew.trans (HB5.out.mono (by simp))).mono HBX.out.size)).drew

set_option maxRecDepth 100000 in
set_option maxHeartbeats 8000000 in
theorem cluesWithout_b (t p : Int) (ps : List Pt) (k b off : Nat) (c : Nat) (w : World) (hl : ps.length ≤ 6) (hk : k < ps.length) (hc : ps.length ≤ c ∧ c ≤ maxLen) (hck : ¬ (c = k + 1)) (hx : ClIn w (some ⟨b, off, none⟩) ps) :
    Calls Try.prog 43 #[.agg #[.int .i64 t, .int .i64 p, .slice (some ⟨b, off, none⟩) ps.length c], .int .i64 (k : Int)] w (RetCls (clW ps k) w) := by
  have hx1 := hx.take k
  have hx2 : ClIn w (some ⟨b, off + (k + 1) * 3, none⟩) (ps.drop (k + 1)) := hx.drop
  have hk2 : (k : Int) ≤ 5 := by omega
  have hwk : IntKind.i64.wrap ((k : Int) + 1) = (k : Int) + 1 := IntWalk.i64_in _ (by omega)
  have h15 : ((k : Int) + 1).toNat = k + 1 := by omega
  have hk1 : (k : Int) ≤ (k : Int) + 1 := by omega
  have hk3 : (0 : Int) ≤ (k : Int) + 1 := by omega
  have HCON : Hid (∀ W bx, Below w.heap.size w W → bx < W.heap.size → W.cell? ⟨bx, 0, none⟩ = some (.slice (some ⟨b, off, none⟩) k c) → W.cell? ⟨bx, 1, none⟩ = some (.slice (some ⟨b, off + (k + 1) * 3, none⟩) (ps.length - (k + 1)) (c - (k + 1))) → Calls Try.prog 85 #[.slice (some ⟨bx, 0, none⟩) 2 2] W (RetCls (clW ps k) W)) := Lib.hid (fun W bx hb hbx c0 c1 => by
    have hlt : (ps.take k).length = k := by rw [List.length_take]; omega
    have hld : (ps.drop (k + 1)).length = (ps.length - (k + 1)) := by rw [List.length_drop]
    have e : accP (fun r => if r = 0 then ps.take k else ps.drop (k + 1)) 2 = clW ps k := by simp [accP, clW]
    rw [← e]
    refine concat_any _ bx W hbx (by rw [e, clW_length (by omega)]; omega) (fun r hr => ?_)
    have : r = 0 ∨ r = 1 := by omega
    rcases this with rfl | rfl
    · exact ⟨b, off, c, by simp only [if_true]; rw [hlt]; exact c0, hx1.keep hb⟩
    · exact ⟨_, _, (c - (k + 1)), by simp only [Nat.one_ne_zero, if_false]; rw [hld]; exact c1, hx2.keep hb⟩)
  clear hx1 hx2
  obtain ⟨L, hL⟩ : ∃ L, ps.length = L := ⟨_, rfl⟩
  rw [hL] at HCON hk hc ⊢
  have hkL : (k : Int) + 1 ≤ (L : Int) := by omega
  have hkc : (k : Int) ≤ (c : Int) := by omega
  clear hx hl hL hc
  have HBX := Lib.hid (below_new w (.cells #[.int .i64 t, .int .i64 p, .slice (some ⟨b, off, none⟩) L c] 34))
  have q2 : (w.alloc (.cells #[.int .i64 t, .int .i64 p, .slice (some ⟨b, off, none⟩) L c] 34)).cell? ⟨w.heap.size, 2, none⟩ = some (.slice (some ⟨b, off, none⟩) L c) := by go_simp
  have hz1 : w.heap.size < (w.alloc (.cells #[.int .i64 t, .int .i64 p, .slice (some ⟨b, off, none⟩) L c] 34)).heap.size := by simp
  obtain ⟨W1, hW1⟩ : ∃ W1, w.alloc (.cells #[.int .i64 t, .int .i64 p, .slice (some ⟨b, off, none⟩) L c] 34) = W1 := ⟨_, rfl⟩
  rw [hW1] at HBX q2 hz1
  have hz2 : ¬ (W1.heap.size = w.heap.size) := by omega
  have hz3 : ¬ (w.heap.size = W1.heap.size) := by omega
  go_enter Try.func43, Try.ntmps43
  go_upto_region 1 with fail
  try rw [hW1]
  clear hW1
  go_region_held3 (fun w' => w'.cell? ⟨w.heap.size, 2, none⟩ = some (.slice (some ⟨b, off, none⟩) L c)) (go_keep)
    ((go_at_call 85; refine (HCON.out _ W1.heap.size (HBX.out.trans (by first | exact (below_new W1 _).mono HBX.out.size | exact ((below_new W1 _).mono HBX.out.size).drew | exact ((Below.refl _ _).drew.trans (below_new W1.drew _)).mono HBX.out.size | exact (((Below.refl _ _).drew.trans (below_new W1.drew _)).mono HBX.out.size).drew)) (by simp) (by go_simp) (by go_simp)).mono ?_; rintro e w5 ⟨v5, rfl, hv5, hb5⟩; have HV5 := Lib.hid hv5; have HB5 := Lib.hid hb5; have s0 : w5.cell? ⟨w.heap.size, 2, none⟩ = some (.slice (some ⟨b, off, none⟩) L c) := (hb5.cell (p := ⟨w.heap.size, 2, none⟩) (by simp; omega)).trans (by go_simp); clear hv5 hb5))
  all_goals
    go_wp2_with fail
    go_ret
    refine ⟨_, rfl, ?_, ?_⟩
    · have hb := HB5.out.size
      have hz := HBX.out.size
      first
        | exact ownsRow_base HV5.out (by simp; omega)
        | exact ownsRow_base HV5.out.drew (by simp; omega)
    · first
        | exact HBX.out.trans (((below_new W1 _).trans (HB5.out.mono (by simp))).mono HBX.out.size)
        | exact HBX.out.trans (((below_new W1 _).drew.trans (HB5.out.mono (by simp))).mono HBX.out.size)
        | exact HBX.out.trans ((((Below.refl _ _).drew.trans (below_new W1.drew _)).trans (HB5.out.mono (by simp))).mono HBX.out.size)
        | exact (HBX.out.trans (((below_new W1 _).trans (HB5.out.mono (by simp))).mono HBX.out.size)).drew
        | exact (HBX.out.trans (((below_new W1 _).drew.trans (HB5.out.mono (by simp))).mono HBX.out.size)).drew

theorem cluesWithout_any (t p : Int) (ps : List Pt) (k : Nat) (a : Option Addr) (c : Nat) (w : World) (hl : ps.length ≤ 6) (hk : k < ps.length) (hc : ps.length ≤ c ∧ c ≤ maxLen) (hx : ClIn w a ps) :
    Calls Try.prog 43 #[.agg #[.int .i64 t, .int .i64 p, .slice a ps.length c], .int .i64 (k : Int)] w (RetCls (clW ps k) w) := by
  obtain ⟨b, off, rfl, _⟩ := hx k hk
  by_cases h4 : c = k + 1
  · subst h4
    exact cluesWithout_a t p ps k b off w hl (by omega) hx
  · exact cluesWithout_b t p ps k b off c w hl hk hc h4 hx
end Go.Proofs.Ytjnghlnhogalbaa
