/-
  'BestClue' of both.
-/
import Derived.Test.YtheailbbnmblnaaLft
import Derived.Deep.CutRange
namespace Go.Proofs.Ytheailbbnmblnaa
open Go.RowKit
set_option linter.unusedVariables false

/-- How many fit the clue j alone. -/
def bcA (t p : Int) (ps : List Pt) (j : Nat) : Int := ((solA t p [ps.getD j pt0]).length : Int)
def bcB (t p : Int) (ps : List Pt) : Bool := pzB t p ps && decide (0 < ps.length)
def bcR (t p : Int) (ps : List Pt) : Int := if bcB t p ps = true then (far false (bcA t p ps) (ps.length - 1) : Int) else 0
/-- The best of the first j clues, and how many fit it. -/
def bcS (a : Nat → Int) : Nat → Int × Int
  | 0 => (0, 0)
  | j + 1 => ((far false a j : Int), best false a j)
theorem bcS_zero (a : Nat → Int) : bcS a 1 = (((0 : Nat) : Int), a 0) := rfl
theorem bcS_yes {a : Nat → Int} {j : Nat} (h : 0 < j) (hlt : a j < (bcS a j).2) : bcS a (j + 1) = ((j : Int), a j) := by
  obtain ⟨i, rfl⟩ : ∃ i, j = i + 1 := ⟨j - 1, by omega⟩
  simp only [bcS, best] at hlt ⊢
  have : far false a (i + 1) = i + 1 := by
    simp only [far, bet]
    simp [hlt]
  rw [this]
theorem bcS_no {a : Nat → Int} {j : Nat} (h : 0 < j) (hlt : ¬ a j < (bcS a j).2) : bcS a (j + 1) = bcS a j := by
  obtain ⟨i, rfl⟩ : ∃ i, j = i + 1 := ⟨j - 1, by omega⟩
  simp only [bcS, best] at hlt ⊢
  have : far false a (i + 1) = far false a i := by
    simp only [far, bet]
    simp [hlt]
  rw [this]
theorem bcA_rng (t p : Int) (ps : List Pt) (j : Nat) : 0 ≤ bcA t p ps j ∧ bcA t p ps j ≤ 60 := by
  have := solA_len t p [ps.getD j pt0]
  unfold bcA
  omega
theorem one_all {q : Pt} (h : clB q = true) : [q].all clB = true := by simp [h]

set_option maxRecDepth 100000 in
set_option maxHeartbeats 8000000 in
theorem sBestClue (t p : Int) (ps : List Pt) (v : Value) (w : World) (hl : ps.length ≤ 1048576) (h : PuzIn w v t p ps) :
    Calls Try.prog 47 #[v] w fun e w' => e = .returned (.tuple #[.int .i64 (bcR t p ps), .bool (bcB t p ps)]) ∧ Below w.heap.size w w' := by
  obtain ⟨i0, hi, hi0, hi1, hi2⟩ := info_parts info3
  have HG := Lib.hid (fun W (hb : Below w.heap.size w W) => pzGood_any t p ps v W hl (h.kept hb))
  obtain ⟨a, c, rfl, hcap, hx⟩ := h.cl
  clear h
  obtain ⟨K, hK⟩ : ∃ K, ps.length = K := ⟨_, rfl⟩
  have HB := Lib.hid (below_new w (.cells #[.int .i64 t, .int .i64 p, .slice a K c] 38))
  have B := Lib.hid (Bz.new w t p (.slice a K c) 38)
  have HD : Hid (bcB t p ps = (pzB t p ps && decide (0 < K))) := Lib.hid (by unfold bcB; rw [hK])
  have HR : Hid (bcR t p ps = if bcB t p ps = true then (far false (bcA t p ps) (K - 1) : Int) else 0) := Lib.hid (by unfold bcR; rw [hK])
  cases hg : pzB t p ps
  case false =>
    have HF : Hid (bcB t p ps = false) := Lib.hid (by rw [HD.out, hg]; rfl)
    have HRF : Hid (bcR t p ps = 0) := Lib.hid (by rw [HR.out, HF.out]; rfl)
    rw [HRF.out, HF.out]
    rw [hg] at HG
    rw [hK] at HG ⊢
    clear hx hl hg hcap hK HD HR
    go_enter Try.func47, Try.ntmps47
    go_wp2_with ((go_at_call 52; refine (HG.out _ HB.out).mono ?_; rintro e w1 ⟨rfl, hb1⟩; have HB1 := Lib.hid (HB.out.trans (hb1.mono HB.out.size)); have B1 := Lib.hid (B.out.kept hb1); obtain ⟨⟨p0, p1, p2⟩, p3⟩ := B1.out; clear hb1))
    go_ret2
    exact ⟨rfl, HB1.out⟩
  case true =>
  by_cases hz : K = 0
  · have HF : Hid (bcB t p ps = false) := Lib.hid (by rw [HD.out, hg]; simp [hz])
    have HRF : Hid (bcR t p ps = 0) := Lib.hid (by rw [HR.out, HF.out]; rfl)
    rw [HRF.out, HF.out]
    rw [hg] at HG
    rw [hK] at HG ⊢
    have hz2 : ((K : Int) == 0) = true := by simp [hz]
    clear hx hl hg hcap hK HD HR hz
    go_enter Try.func47, Try.ntmps47
    go_wp2_with ((go_at_call 52; refine (HG.out _ HB.out).mono ?_; rintro e w1 ⟨rfl, hb1⟩; have HB1 := Lib.hid (HB.out.trans (hb1.mono HB.out.size)); have B1 := Lib.hid (B.out.kept hb1); obtain ⟨⟨p0, p1, p2⟩, p3⟩ := B1.out; clear hb1))
    go_ret2
    exact ⟨rfl, HB1.out⟩
  have hz2 : ((K : Int) == 0) = false := by rw [beq_eq_false_iff_ne]; omega
  obtain ⟨g1, g2, g3⟩ := pzB_iff.1 hg
  have HF : Hid (bcB t p ps = true) := Lib.hid (by rw [HD.out, hg]; simp; omega)
  have HRT : Hid (bcR t p ps = (far false (bcA t p ps) (K - 1) : Int)) := Lib.hid (by rw [HR.out, if_pos HF.out])
  have HRNG := Lib.hid (fun j => bcA_rng t p ps j)
  obtain ⟨b, off, rfl, hbw, _⟩ := hx 0 (by omega)
  have HA : Hid (∀ W j, Below w.heap.size w W → j < K → Calls Try.prog 62 #[.agg #[.int .i64 t, .int .i64 p], .slice (some ⟨b, off + j * 3, none⟩) 1 (c - j)] W (RetNew (solA t p [ps.getD j pt0]) W)) := Lib.hid (fun W j hb hj => by
    obtain ⟨b', off', e, hb', hc'⟩ := hx j (by omega)
    simp only [Option.some.injEq, Addr.mk.injEq] at e
    obtain ⟨rfl, rfl, _⟩ := e
    exact pzAll_any t p [ps.getD j pt0] _ (c - j) W g1 (one_all (all_at g3 (by omega))) (by simp) ((clIn_one_of hb' hc').keep hb))
  have HLE : Hid (∀ j, ((solA t p [ps.getD j pt0]).length : Int) = bcA t p ps j) := Lib.hid (fun j => rfl)
  have HS0 := Lib.hid (bcS_zero (bcA t p ps))
  have HSY := Lib.hid (fun j => bcS_yes (a := bcA t p ps) (j := j))
  have HSN := Lib.hid (fun j => bcS_no (a := bcA t p ps) (j := j))
  have HEND : Hid (bcS (bcA t p ps) K = ((far false (bcA t p ps) (K - 1) : Int), best false (bcA t p ps) (K - 1))) := Lib.hid (by
    obtain ⟨J, rfl⟩ : ∃ J, K = J + 1 := ⟨K - 1, by omega⟩
    rfl)
  have hKc : K ≤ c := by omega
  have hK6 : (K : Int) ≤ 6 := by omega
  rw [hg] at HG
  rw [hK] at HG ⊢
  rw [HRT.out, HF.out]
  clear hx hl hg hcap hK g1 g2 g3 HD HR HRT HF
  generalize bcA t p ps = A at HRNG HLE HS0 HSY HSN HEND ⊢
  go_enter Try.func47, Try.ntmps47
  go_wp2_with ((go_at_call 52; refine (HG.out _ HB.out).mono ?_; rintro e w1 ⟨rfl, hb1⟩; have HB1 := Lib.hid (HB.out.trans (hb1.mono HB.out.size)); have B1 := Lib.hid (B.out.kept hb1); obtain ⟨⟨p0, p1, p2⟩, p3⟩ := B1.out; clear hb1))
  clear p0 p1 p2 p3
  go_loopw [4, 5, 20] (fun bs ls i wr => ∃ j : Nat, j ≤ K ∧ i = .int .i64 j ∧ bs = .int .i64 (bcS A j).1 ∧ ls = .int .i64 (bcS A j).2 ∧ Bz wr w.heap.size t p (.slice (some ⟨b, off, none⟩) K c) ∧ Below w.heap.size w wr) (fun _ _ i _ => K - (intOf i).toNat)
  case atStart => exact ⟨0, by omega, rfl, rfl, rfl, B1.out, HB1.out⟩
  case round =>
    clear HB1 B1
    obtain ⟨j, hj, rfl, rfl, rfl, hbz, hbel⟩ := hrel
    have BR := Lib.hid hbz
    have HBR := Lib.hid hbel
    obtain ⟨⟨p0, p1, p2⟩, p3⟩ := hbz
    clear hbel
    by_cases hlt : j < K
    · have hle : (j : Int) < (K : Int) := by omega
      have h1 : (j : Int) + 1 ≤ (c : Int) := by omega
      have h2 : (j : Int) ≤ (j : Int) + 1 := by omega
      have h0 : (0 : Int) ≤ (j : Int) := by omega
      have h3 : (0 : Int) ≤ (j : Int) + 1 := by omega
      have h4 : ¬ (c = j) := by omega
      have h5 : ((j : Int) + 1).toNat = j + 1 := by omega
      have h6 : (j : Int) ≤ 6 := by omega
      have hwk : IntKind.i64.wrap ((j : Int) + 1) = (j : Int) + 1 := IntWalk.i64_in _ (by omega)
      have h8 : j + 1 - j = 1 := by omega
      have HAJ := Lib.hid (fun W hb => HA.out W j hb hlt)
      have hrng := HRNG.out j
      have hle2 := HLE.out j
      generalize solA t p [ps.getD j pt0] = sl at HAJ hle2
      have HL2 := Lib.hid hle2
      obtain ⟨S, hS⟩ : ∃ S, bcS A j = S := ⟨_, rfl⟩
      have HSS := Lib.hid hS
      rw [hS]
      clear hle2 hS
      go_upto_region 7 with fail
      go_cut [7] from 23 to 32 (fun s7 wx => s7 = .int .i64 (sl.length : Int) ∧ Hid (Below wr.heap.size wr wx))
      case first =>
        go_region_held3 (fun w' => w'.cell? ⟨w.heap.size, 0, none⟩ = some (.int .i64 t) ∧ w'.cell? ⟨w.heap.size, 1, none⟩ = some (.int .i64 p) ∧ w'.cell? ⟨w.heap.size, 2, none⟩ = some (.slice (some ⟨b, off, none⟩) K c)) (go_keep)
          ((go_at_call 62; refine (HAJ.out _ (by first | exact HBR.out | exact HBR.out.drew | exact HBR.out.drew.drew)).mono ?_; rintro e w2 ⟨v2, rfl, hr2, hb2⟩; obtain ⟨a2, c2, rfl⟩ := hr2.form; have HB2 : Hid (Below wr.heap.size wr w2) := Lib.hid (by first | exact hb2 | exact (Below.refl _ _).drew.trans hb2 | exact (Below.refl _ _).drew.drew.trans hb2); obtain ⟨⟨s0, s1, s2⟩, s3⟩ := (BR.out.kept HB2.out); clear hr2 hb2))
        all_goals
          go_wp2_with fail
          go_meet
          case rel => exact ⟨rfl, Lib.hid (by first | exact HB2.out | exact HB2.out.drew)⟩
      case rest =>
        obtain ⟨rfl, HBC⟩ := hcut
        have BC := Lib.hid (BR.out.kept HBC.out)
        have HBCC := Lib.hid (HBR.out.trans (HBC.out.mono HBR.out.size))
        rw [HL2.out]
        obtain ⟨x, hx⟩ : ∃ x, A j = x := ⟨_, rfl⟩
        have HX := Lib.hid hx
        rw [hx]
        clear hx hrng
        by_cases hj0 : j = 0
        · have hj1 : ((j : Int) == 0) = true := by simp [hj0]
          have HNX : Hid (bcS A (j + 1) = ((j : Int), x)) := Lib.hid (by rw [← HX.out, hj0]; exact HS0.out)
          clear hj0
          go_wp2_with fail
          exact ⟨⟨j + 1, hlt, by go_num, by rw [HNX.out], by rw [HNX.out], BC.out, HBCC.out⟩, by simp [intOf]; omega⟩
        · have hj1 : ((j : Int) == 0) = false := by rw [beq_eq_false_iff_ne]; omega
          by_cases hless : x < S.2
          · have HNX : Hid (bcS A (j + 1) = ((j : Int), x)) := Lib.hid (by rw [← HX.out]; exact HSY.out j (by omega) (by rw [HSS.out, HX.out]; exact hless))
            clear hj0
            go_wp2_with fail
            exact ⟨⟨j + 1, hlt, by go_num, by rw [HNX.out], by rw [HNX.out], BC.out, HBCC.out⟩, by simp [intOf]; omega⟩
          · have HNX : Hid (bcS A (j + 1) = S) := Lib.hid (by rw [← HSS.out]; exact HSN.out j (by omega) (by rw [HSS.out, HX.out]; first | exact hless | exact Int.not_lt.1 hless))
            clear hj0
            go_wp2_with fail
            exact ⟨⟨j + 1, hlt, by go_num, by rw [HNX.out], by rw [HNX.out], BC.out, HBCC.out⟩, by simp [intOf]; omega⟩
    · have HJ : Hid (j = K) := Lib.hid (by omega)
      have hle : ¬ ((j : Int) < (K : Int)) := by omega
      clear hlt hj
      have HE2 : Hid ((bcS A j).1 = (far false A (K - 1) : Int)) := Lib.hid (by rw [HJ.out, HEND.out])
      generalize (bcS A j).1 = r1 at HE2 ⊢
      generalize (bcS A j).2 = r2
      go_wp2_with fail
      go_ret2
      exact ⟨by rw [HE2.out]; rfl, HBR.out⟩

set_option maxRecDepth 100000 in
set_option maxHeartbeats 8000000 in
theorem iBestClue (t p : Int) (ps : List Pt) (v : Value) (w : World) (hl : ps.length ≤ 1048576) (h : PuzIn w v t p ps) :
    Calls Try.prog 48 #[v] w fun e w' => e = .returned (.tuple #[.int .i64 (bcR t p ps), .bool (bcB t p ps)]) ∧ Below w.heap.size w w' := by
  obtain ⟨i0, hi, hi0, hi1, hi2⟩ := info_parts info3
  have HG := Lib.hid (fun W (hb : Below w.heap.size w W) => isPuzzle_any t p ps v W hl (h.kept hb))
  obtain ⟨a, c, rfl, hcap, hx⟩ := h.cl
  clear h
  obtain ⟨K, hK⟩ : ∃ K, ps.length = K := ⟨_, rfl⟩
  have HB := Lib.hid (below_new w (.cells #[.int .i64 t, .int .i64 p, .slice a K c] 38))
  have B := Lib.hid (Bz.new w t p (.slice a K c) 38)
  have HD : Hid (bcB t p ps = (pzB t p ps && decide (0 < K))) := Lib.hid (by unfold bcB; rw [hK])
  have HR : Hid (bcR t p ps = if bcB t p ps = true then (far false (bcA t p ps) (K - 1) : Int) else 0) := Lib.hid (by unfold bcR; rw [hK])
  cases hg : pzB t p ps
  case false =>
    have HF : Hid (bcB t p ps = false) := Lib.hid (by rw [HD.out, hg]; rfl)
    have HRF : Hid (bcR t p ps = 0) := Lib.hid (by rw [HR.out, HF.out]; rfl)
    rw [HRF.out, HF.out]
    rw [hg] at HG
    rw [hK] at HG ⊢
    clear hx hl hg hcap hK HD HR
    go_enter Try.func48, Try.ntmps48
    go_wp2_with ((go_at_call 21; refine (HG.out _ HB.out).mono ?_; rintro e w1 ⟨rfl, hb1⟩; have HB1 := Lib.hid (HB.out.trans (hb1.mono HB.out.size)); have B1 := Lib.hid (B.out.kept hb1); obtain ⟨⟨p0, p1, p2⟩, p3⟩ := B1.out; clear hb1))
    go_ret2
    exact ⟨rfl, HB1.out⟩
  case true =>
  by_cases hz : K = 0
  · have HF : Hid (bcB t p ps = false) := Lib.hid (by rw [HD.out, hg]; simp [hz])
    have HRF : Hid (bcR t p ps = 0) := Lib.hid (by rw [HR.out, HF.out]; rfl)
    rw [HRF.out, HF.out]
    rw [hg] at HG
    rw [hK] at HG ⊢
    have hz2 : ((K : Int) == 0) = true := by simp [hz]
    clear hx hl hg hcap hK HD HR hz
    go_enter Try.func48, Try.ntmps48
    go_wp2_with ((go_at_call 21; refine (HG.out _ HB.out).mono ?_; rintro e w1 ⟨rfl, hb1⟩; have HB1 := Lib.hid (HB.out.trans (hb1.mono HB.out.size)); have B1 := Lib.hid (B.out.kept hb1); obtain ⟨⟨p0, p1, p2⟩, p3⟩ := B1.out; clear hb1))
    go_ret2
    exact ⟨rfl, HB1.out⟩
  have hz2 : ((K : Int) == 0) = false := by rw [beq_eq_false_iff_ne]; omega
  obtain ⟨g1, g2, g3⟩ := pzB_iff.1 hg
  have HF : Hid (bcB t p ps = true) := Lib.hid (by rw [HD.out, hg]; simp; omega)
  have HRT : Hid (bcR t p ps = (far false (bcA t p ps) (K - 1) : Int)) := Lib.hid (by rw [HR.out, if_pos HF.out])
  have HRNG := Lib.hid (fun j => bcA_rng t p ps j)
  have HCA := Lib.hid (fun W j (hb : Below w.heap.size w W) (hj : j < K) => clueAlone_any t p ps a c j W (by omega) (by omega) hcap.1 (hx.keep hb))
  have HA : Hid (∀ W u j a', j < K → ClIn W a' [ps.getD j pt0] → Calls Try.prog 63 #[.agg #[.int .i64 t, .int .i64 p, u], .slice a' 1 1] W (RetNew (solA t p [ps.getD j pt0]) W)) := Lib.hid (fun W u j a' hj hc =>
    fitting_any t p u [ps.getD j pt0] a' 1 W (one_all (all_at g3 (by omega))) (by simp) hc)
  have HLE : Hid (∀ j, ((solA t p [ps.getD j pt0]).length : Int) = bcA t p ps j) := Lib.hid (fun j => rfl)
  have HFL := Lib.hid (far_le false (bcA t p ps) (K - 1))
  have HFF := Lib.hid (fun j h => far_first false (bcA t p ps) (K - 1) j h)
  have hKc : K ≤ c := by omega
  have hK6 : (K : Int) ≤ 6 := by omega
  have hK7 : K ≤ 6 := by omega
  rw [hg] at HG
  rw [hK] at HG HCA ⊢
  rw [HRT.out, HF.out]
  clear hx hl hg hcap hK g1 g2 g3 HD HR HRT HF
  generalize bcA t p ps = A at HRNG HLE HFL HFF ⊢
  go_enter Try.func48, Try.ntmps48
  go_wp2_with (first | (go_at_call 21; refine (HG.out _ HB.out).mono ?_; rintro e w1 ⟨rfl, hb1⟩; have HB1 := Lib.hid (HB.out.trans (hb1.mono HB.out.size)); have B1 := Lib.hid (B.out.kept hb1); obtain ⟨⟨p0, p1, p2⟩, p3⟩ := B1.out; clear hb1) | (at_make; refine wpList_make_full _ rfl _ _ 46 rfl w1.heap.size 3 i0 (.int .i64 0) 1 Try.underlying46 hi hi0 hi1 .i64 .i64 K K K rfl rfl rfl rfl ?c1 ?c2 ?c3 ?_; rotate_right; intro w3 hown3 hgrow3))
  case c1 => rw [hi2]; omega
  case c2 => unfold maxLen; omega
  case c3 => simp
  have hb13 : Below w1.heap.size w1 w3 := (Below.refl _ w1).grown hgrow3 (Nat.le_refl _) (fun k e => by simp at e)
  have HB3 := Lib.hid (HB1.out.trans (hb13.mono HB1.out.size))
  have B3 := Lib.hid (B1.out.kept hb13)
  have HO3 : Hid (∀ j, j < K → (∃ v : Int, w3.cell? ⟨w1.heap.size, j, none⟩ = some (.int .i64 v)) ∧ w3.frozen? ⟨w1.heap.size, j, none⟩ = false) := Lib.hid (fun j hj => by
    refine ⟨⟨0, ?_⟩, World.ownsRow.frozenAt hown3 j⟩
    rw [World.ownsRow.cellAt hown3 j (by omega)]
    simp [madeCells, hj, Value.cells, Nat.mod_one])
  have HZ3 : Hid (w1.heap.size < w3.heap.size) := Lib.hid (World.ownsRow.lt hown3 _ rfl).2
  have hm1 : ¬ (w1.heap.size = w.heap.size) := by omega
  have hm2 : ¬ (w.heap.size = w1.heap.size) := by omega
  clear hown3 hgrow3 hb13 p0 p1 p2
  go_loopw [5, 21] (fun _ i wr => ∃ j : Nat, j ≤ K ∧ i = .int .i64 j ∧ (∀ r, r < j → wr.cell? ⟨w1.heap.size, r, none⟩ = some (.int .i64 (A r))) ∧ (∀ r, r < K → (∃ v : Int, wr.cell? ⟨w1.heap.size, r, none⟩ = some (.int .i64 v)) ∧ wr.frozen? ⟨w1.heap.size, r, none⟩ = false) ∧ w1.heap.size < wr.heap.size ∧ Bz wr w.heap.size t p (.slice a K c) ∧ Below w.heap.size w wr) (fun _ i _ => K - (intOf i).toNat)
  case atStart => exact ⟨0, by omega, rfl, by simp, HO3.out, HZ3.out, B3.out, HB3.out⟩
  case round =>
    clear HO3 B3 HB3 HZ3
    obtain ⟨j, hj, rfl, hdone, hopen, hgr, hbz, hbr⟩ := hrel
    have HDN := Lib.hid hdone
    have HOP := Lib.hid hopen
    have BR := Lib.hid hbz
    have HBR := Lib.hid hbr
    clear hdone hopen
    by_cases hlt : j < K
    · have hjK : (j : Int) < (K : Int) := by omega
      have HAJ := Lib.hid (fun W u a' hc => HA.out W u j a' hlt hc)
      have HCJ := Lib.hid (fun W hb => HCA.out W j hb hlt)
      have hle2 := HLE.out j
      generalize solA t p [ps.getD j pt0] = sl at HAJ hle2
      have HL2 := Lib.hid hle2
      obtain ⟨⟨u, qc⟩, qf⟩ := HOP.out j hlt
      obtain ⟨⟨p0, p1, p2⟩, p3'⟩ := hbz
      clear hbr hle2
      go_wp2_with fail
      go_region_held3 (fun w' => w'.cell? ⟨w.heap.size, 0, none⟩ = some (.int .i64 t) ∧ w'.cell? ⟨w.heap.size, 1, none⟩ = some (.int .i64 p) ∧ w'.cell? ⟨w.heap.size, 2, none⟩ = some (.slice a K c)) (go_keep)
        ((first
          | (go_at_call 71; refine (HCJ.out _ (by first | exact HBR.out | exact HBR.out.drew | exact HBR.out.drew.drew)).mono ?_; rintro e w2 ⟨a2, rfl, hc2, hb2⟩; have HC2 := Lib.hid hc2; have HB2 : Hid (Below wr.heap.size wr w2) := Lib.hid (by first | exact hb2 | exact (Below.refl _ _).drew.trans hb2 | exact (Below.refl _ _).drew.drew.trans hb2); obtain ⟨⟨s0, s1, s2⟩, s3⟩ := (BR.out.kept HB2.out); clear hb2 hc2)
          | (go_at_call 63; refine (HAJ.out _ _ _ (by first | exact HC2.out | exact HC2.out.keep (Below.refl _ _).drew | exact HC2.out.keep (Below.refl _ _).drew.drew)).mono ?_; rintro e w4 ⟨v4, rfl, hr4, hb4⟩; obtain ⟨a4, c4, rfl⟩ := hr4.form; have HB4 : Hid (Below wr.heap.size wr w4) := Lib.hid (HB2.out.trans (by first | exact hb4.mono HB2.out.size | exact ((Below.refl _ _).drew.trans hb4).mono HB2.out.size | exact ((Below.refl _ _).drew.drew.trans hb4).mono HB2.out.size)); have B4 := Lib.hid (BR.out.kept HB4.out); obtain ⟨⟨y0, y1, y2⟩, y3⟩ := B4.out; have HD4 : Hid (∀ r, r < j → w4.cell? ⟨w1.heap.size, r, none⟩ = some (.int .i64 (A r))) := Lib.hid (fun r hr => (HB4.out.cell (p := ⟨w1.heap.size, r, none⟩) hgr).trans (HDN.out r hr)); have HO4 : Hid (∀ r, r < K → (∃ v : Int, w4.cell? ⟨w1.heap.size, r, none⟩ = some (.int .i64 v)) ∧ w4.frozen? ⟨w1.heap.size, r, none⟩ = false) := Lib.hid (fun r hr => ⟨⟨(HOP.out r hr).1.choose, (HB4.out.cell (p := ⟨w1.heap.size, r, none⟩) hgr).trans (HOP.out r hr).1.choose_spec⟩, (HB4.out.frozen (p := ⟨w1.heap.size, r, none⟩) hgr).trans (HOP.out r hr).2⟩); have qc4 := (HB4.out.cell (p := ⟨w1.heap.size, j, none⟩) hgr).trans qc; have qf4 := (HB4.out.frozen (p := ⟨w1.heap.size, j, none⟩) hgr).trans qf; clear hr4 hb4)))
      all_goals
        go_wp2_with fail
        refine ⟨⟨j + 1, hlt, by go_num, ?_, ?_, by simpa using Nat.lt_of_lt_of_le hgr HB4.out.size, ⟨⟨(World.cell?_setCell_other _ _ _ _ (by first | (simp; done) | (simp; omega))).trans y0, (World.cell?_setCell_other _ _ _ _ (by first | (simp; done) | (simp; omega))).trans y1, (World.cell?_setCell_other _ _ _ _ (by first | (simp; done) | (simp; omega))).trans y2⟩, by simpa using y3⟩, by first | exact (HBR.out.trans (HB4.out.mono HBR.out.size)).setCell (p := ⟨w1.heap.size, j, none⟩) HB1.out.size _ | exact ((HBR.out.trans (HB4.out.mono HBR.out.size)).setCell (p := ⟨w1.heap.size, j, none⟩) HB1.out.size _).drew | exact (HBR.out.trans (HB4.out.mono HBR.out.size)).drew.setCell (p := ⟨w1.heap.size, j, none⟩) HB1.out.size _⟩, by simp [intOf]; omega⟩
        · intro r hr
          by_cases e : r = j
          · subst e
            rw [← HL2.out]
            exact World.cell?_setCell_same' _ _ _ (by first | (rw [qc4]; rfl) | (show (w4.cell? _).isSome = true; rw [qc4]; rfl))
          · exact (World.cell?_setCell_other _ _ _ _ (by first | (simp; done) | (simp; omega))).trans (HD4.out r (by omega))
        · intro r hr
          obtain ⟨⟨v0, hv0⟩, hf0⟩ := HO4.out r hr
          refine ⟨?_, by rw [World.frozen?_setCell]; exact hf0⟩
          by_cases e : r = j
          · subst e
            exact ⟨_, World.cell?_setCell_same' _ _ _ (by first | (rw [qc4]; rfl) | (show (w4.cell? _).isSome = true; rw [qc4]; rfl))⟩
          · exact ⟨v0, (World.cell?_setCell_other _ _ _ _ (by first | (simp; done) | (simp; omega))).trans hv0⟩
    · have HJ : Hid (j = K) := Lib.hid (by omega)
      have hjj : ¬ ((j : Int) < (K : Int)) := by omega
      have HCELL : Hid (∀ r, r ≤ K - 1 → wr.cell? ⟨w1.heap.size, r, none⟩ = some (.int .i64 (A r))) := Lib.hid (fun r hr => HDN.out r (by rw [HJ.out]; omega))
      have HK1 : Hid (K = K - 1 + 1) := Lib.hid (by omega)
      obtain ⟨J, rfl⟩ : ∃ J, K = J + 1 := ⟨K - 1, by omega⟩
      simp only [Nat.add_sub_cancel] at HCELL HFL HFF ⊢
      have HMIN := Lib.hid (min_any A J w1.heap.size (J + 1) wr (by omega) HCELL.out)
      have HIDX := Lib.hid (index_any A J w1.heap.size (J + 1) (far false A J) (best false A J) wr (by omega) HFL.out rfl (fun j hj => HFF.out j hj) HCELL.out)
      obtain ⟨bm, hbm⟩ : ∃ bm, best false A J = bm := ⟨_, rfl⟩
      rw [hbm] at HMIN HIDX
      obtain ⟨fr, hfr⟩ : ∃ fr, far false A J = fr := ⟨_, rfl⟩
      rw [hfr] at HIDX
      have HFR := Lib.hid hfr
      clear hbr hbz hlt hj hbm hfr hz hz2
      go_wp2_with (first | (go_at_call 73; refine HMIN.out.mono ?_; rintro e w5 ⟨rfl, rfl⟩) | (go_at_call 72; refine HIDX.out.mono ?_; rintro e w6 ⟨rfl, rfl⟩))
      go_ret2
      exact ⟨congrArg (fun z : Nat => Ending.returned (.tuple #[.int .i64 (z : Int), .bool true])) HFR.out.symm, HBR.out⟩
end Go.Proofs.Ytheailbbnmblnaa
