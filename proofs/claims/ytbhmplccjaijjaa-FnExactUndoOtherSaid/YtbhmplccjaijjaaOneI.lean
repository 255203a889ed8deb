/-
  'IsOneToOne' of the program.
-/
import Derived.Test.YtbhmplccjaijjaaOneM
import Derived.Test.YtbhmplccjaijjaaGcdU
import Derived.Test.YtbhmplccjaijjaaOtG
import Derived.Deep.RegionWith
import Derived.Deep.CutRange
import Derived.RegionTactic
import Derived.Deep.RegionHeld3
namespace Go.Proofs.Ytbhmplccjaijjaa
open Go.RowKit
set_option linter.unusedVariables false

set_option maxRecDepth 100000 in
set_option maxHeartbeats 4000000 in
theorem meets_any (x y x' y' : Int) (w : World) (a1 : 1 ≤ y) (a2 : 0 ≤ x) (a3 : x < y) (a4 : y ≤ 160) (b1 : 1 ≤ y') (b2 : 0 ≤ x') (b3 : x' < y') (b4 : y' ≤ 160) :
    Calls Try.prog 98 #[.agg #[.int .i64 x, .int .i64 y], .agg #[.int .i64 x', .int .i64 y']] w fun e w' => e = .returned (.bool (meetB (x, y) (x', y'))) ∧ Below w.heap.size w w' := by
  have HC := Lib.hid (fun W => commonDivisor_any y y' W (by omega) (by omega) (by omega) (by omega))
  have hgp := gcd_pos (a := y) (b := y') (by omega)
  have hgl := gcd_le (a := y) (b := y') (B := 160) (by omega) (by omega)
  have HMB : Hid (meetB (x, y) (x', y') = decide ((x - x') % (Int.gcd y y' : Int) = 0)) := Lib.hid rfl
  obtain ⟨g, hgg⟩ : ∃ g : Int, ((Int.gcd y y' : Nat) : Int) = g := ⟨_, rfl⟩
  rw [hgg] at HC hgp hgl HMB
  have hg0 : (g == 0) = false := by simp; omega
  have hg1 : ¬ (g = 0) := by omega
  have HM2 : Hid (((x - x').tmod g == 0) = meetB (x, y) (x', y')) := Lib.hid (by rw [tmod_zero_b]; exact HMB.out.symm)
  have hws : IntKind.i64.wrap (x - x') = x - x' := IntWalk.i64_in _ (by omega)
  generalize meetB (x, y) (x', y') = mb at *
  have q0 : ((w.alloc (.cells #[.int .i64 x, .int .i64 y] 85)).alloc (.cells #[.int .i64 x', .int .i64 y'] 85)).cell? ⟨w.heap.size, 0, none⟩ = some (.int .i64 x) := by go_simp
  have q1 : ((w.alloc (.cells #[.int .i64 x, .int .i64 y] 85)).alloc (.cells #[.int .i64 x', .int .i64 y'] 85)).cell? ⟨w.heap.size, 1, none⟩ = some (.int .i64 y) := by go_simp
  have q2 : ((w.alloc (.cells #[.int .i64 x, .int .i64 y] 85)).alloc (.cells #[.int .i64 x', .int .i64 y'] 85)).cell? ⟨w.heap.size + 1, 0, none⟩ = some (.int .i64 x') := by go_simp
  have q3 : ((w.alloc (.cells #[.int .i64 x, .int .i64 y] 85)).alloc (.cells #[.int .i64 x', .int .i64 y'] 85)).cell? ⟨w.heap.size + 1, 1, none⟩ = some (.int .i64 y') := by go_simp
  obtain ⟨W, hW⟩ : ∃ W, (w.alloc (.cells #[.int .i64 x, .int .i64 y] 85)).alloc (.cells #[.int .i64 x', .int .i64 y'] 85) = W := ⟨_, rfl⟩
  have HBW : Hid (Below w.heap.size w W) := Lib.hid (by rw [← hW]; exact ((Below.refl _ w).alloc (Nat.le_refl _) _).alloc (by simp) _)
  have hz1 : w.heap.size < W.heap.size := by rw [← hW]; simp; omega
  have hz2 : w.heap.size + 1 < W.heap.size := by rw [← hW]; simp
  rw [hW] at q0 q1 q2 q3
  clear hgg
  go_enter Try.func98, Try.ntmps98
  go_wp2_with fail
  clear hW
  go_region_held3 (fun w' => w'.cell? ⟨w.heap.size, 0, none⟩ = some (.int .i64 x) ∧ w'.cell? ⟨w.heap.size, 1, none⟩ = some (.int .i64 y) ∧ w'.cell? ⟨w.heap.size + 1, 0, none⟩ = some (.int .i64 x') ∧ w'.cell? ⟨w.heap.size + 1, 1, none⟩ = some (.int .i64 y')) (go_keep)
    ((go_at_call 114; refine (HC.out _).mono ?_; rintro e w6 ⟨rfl, hb6⟩; have HB6 : Hid (Below W.heap.size W w6) := Lib.hid (by first | exact hb6 | exact (Below.refl _ _).drew.trans hb6 | exact (Below.refl _ _).drew.drew.trans hb6); clear hb6; have c0 := (HB6.out.cell (p := ⟨w.heap.size, 0, none⟩) hz1).trans q0; have c1 := (HB6.out.cell (p := ⟨w.heap.size, 1, none⟩) hz1).trans q1; have c2 := (HB6.out.cell (p := ⟨w.heap.size + 1, 0, none⟩) hz2).trans q2; have c3 := (HB6.out.cell (p := ⟨w.heap.size + 1, 1, none⟩) hz2).trans q3))
  all_goals
    go_wp2_with fail
    go_ret
    exact ⟨ret_bool HM2.out, by first | exact HBW.out.trans (HB6.out.mono HBW.out.size) | exact (HBW.out.trans (HB6.out.mono HBW.out.size)).drew⟩

/-- Pairs that lie one behind the other from the beginning of a block. -/
def CellsF (w : World) (a : Option Addr) (n : Nat) (f : Nat → Int × Int) : Prop :=
  ∀ k, k < n → ∃ g, a = some ⟨g, 0, none⟩ ∧ g < w.heap.size ∧ w.cell? ⟨g, k * 2, none⟩ = some (.int .i64 (f k).1) ∧ w.cell? ⟨g, k * 2 + 1, none⟩ = some (.int .i64 (f k).2)
theorem CellsF.kept {w w' : World} {a : Option Addr} {n : Nat} {f : Nat → Int × Int} (h : CellsF w a n f) (hb : Below w.heap.size w w') : CellsF w' a n f := fun k hk => by
  obtain ⟨g, e, hg, h1, h2⟩ := h k hk
  exact ⟨g, e, Nat.lt_of_lt_of_le hg hb.size, (hb.cell (p := ⟨g, _, none⟩) hg).trans h1, (hb.cell (p := ⟨g, _, none⟩) hg).trans h2⟩
theorem CellsF.le {w : World} {a : Option Addr} {n m : Nat} {f : Nat → Int × Int} (h : CellsF w a n f) (hm : m ≤ n) : CellsF w a m f := fun k hk => h k (by omega)

/-- What IndexFunc and ContainsFunc find. -/
def Found (x : Int × Int) (f : Nat → Int × Int) (n : Nat) (b : Bool) : Prop := (b = true → ∃ i, i < n ∧ meetB x (f i) = true) ∧ (b = false → ∀ i, i < n → meetB x (f i) = false)

set_option maxRecDepth 100000 in
set_option maxHeartbeats 4000000 in
theorem indexMeets_any (x y : Int) (f : Nat → Int × Int) (n c : Nat) (a : Option Addr) (w : World) (hn : n ≤ 8) (a1 : 1 ≤ y) (a2 : 0 ≤ x) (a3 : x < y) (a4 : y ≤ 160) (hf : ∀ k, k < n → 1 ≤ (f k).2 ∧ 0 ≤ (f k).1 ∧ (f k).1 < (f k).2 ∧ (f k).2 ≤ 160) (hx : CellsF w a n f) :
    Calls Try.prog 113 #[.slice a n c, .func (.func 98) #[.agg #[.int .i64 x, .int .i64 y]] #[]] w fun e w' => ∃ k : Int, e = .returned (.int .i64 k) ∧ Found (x, y) f n (decide (0 ≤ k)) ∧ -1 ≤ k ∧ k ≤ 1048576 ∧ Below w.heap.size w w' := by
  have hef : ∀ (args : Array Value) (w : World), (callFunc 98 args).run Try.prog w = .ok (.enter 98 args) w := enters_of Try.func98 (by kernel_rfl) rfl
  have HX := Lib.hid hx
  have HF := Lib.hid hf
  have HA := Lib.hid (And.intro a1 (And.intro a2 (And.intro a3 a4)))
  clear hx hf
  go_enter Try.func113, Try.ntmps113
  go_wp2_with fail
  go_loopw [5, 8] (fun _ i wr => ∃ j : Nat, j ≤ n ∧ i = .int .i64 j ∧ (∀ i, i < j → meetB (x, y) (f i) = false) ∧ Below w.heap.size w wr) (fun _ i _ => n - (RowKit.intOf i).toNat)
  case atStart => exact ⟨0, Nat.zero_le _, rfl, fun i hi => by omega, Below.refl _ _⟩
  case round =>
    obtain ⟨j, hj, rfl, hall, hbel⟩ := hrel
    have HALL := Lib.hid hall
    have HBL := Lib.hid hbel
    clear hall
    by_cases hlt : j < n
    · obtain ⟨g, rfl, hg, k0, k1⟩ := HX.out j hlt
      replace k0 := (hbel.cell (p := ⟨g, _, none⟩) hg).trans k0
      replace k1 := (hbel.cell (p := ⟨g, _, none⟩) hg).trans k1
      have hfj := HF.out j hlt
      clear hbel
      obtain ⟨q, hq⟩ : ∃ q, f j = q := ⟨_, rfl⟩
      have HQ := Lib.hid hq
      rw [hq] at k0 k1 hfj
      obtain ⟨x', y'⟩ := q
      dsimp only at k0 k1 hfj
      obtain ⟨f1, f2, f3, f4⟩ := hfj
      have hlt2 : (j : Int) < (n : Int) := by omega
      have hj0 : (0 : Int) ≤ (j : Int) := by omega
      have HC := Lib.hid (fun W => meets_any x y x' y' W HA.out.1 HA.out.2.1 HA.out.2.2.1 HA.out.2.2.2 f1 f2 f3 f4)
      clear hq
      cases hbv : meetB (x, y) (x', y') with
      | false =>
        rw [hbv] at HC
        have HBV := Lib.hid hbv
        clear hbv
        go_wp2_with fail
        refine (HC.out _).mono ?_
        rintro e w4 ⟨rfl, hb4⟩
        have HBl4 := Lib.hid (HBL.out.trans (hb4.mono HBL.out.size))
        clear hb4
        go_wp2_with fail
        exact ⟨⟨j + 1, hlt, by go_num, fun i hi => (Nat.lt_or_ge i j).elim (fun h => HALL.out i h) (fun h => (by have h9 : i = j := (by omega); subst h9; rw [HQ.out]; exact HBV.out)), HBl4.out⟩, by simp [RowKit.intOf]; omega⟩
      | true =>
        rw [hbv] at HC
        have HBV := Lib.hid hbv
        clear hbv
        go_wp2_with fail
        refine (HC.out _).mono ?_
        rintro e w4 ⟨rfl, hb4⟩
        have HBl4 := Lib.hid (HBL.out.trans (hb4.mono HBL.out.size))
        clear hb4
        go_wp2_with fail
        go_ret
        refine ⟨_, rfl, ⟨fun _ => ⟨j, hlt, by rw [HQ.out]; exact HBV.out⟩, fun h => ?_⟩, by omega, by omega, HBl4.out⟩
        rw [decide_eq_false_iff_not] at h
        exact (h (by omega)).elim
    · obtain rfl : j = n := by omega
      have hlt2 : ¬ ((j : Int) < (j : Int)) := by omega
      clear hbel
      go_wp2_with fail
      go_ret
      exact ⟨_, rfl, ⟨fun h => by simp at h, fun _ => HALL.out⟩, by omega, by omega, HBL.out⟩

theorem containsMeets_any (x y : Int) (f : Nat → Int × Int) (n c : Nat) (a : Option Addr) (w : World) (hn : n ≤ 8) (a1 : 1 ≤ y) (a2 : 0 ≤ x) (a3 : x < y) (a4 : y ≤ 160) (hf : ∀ k, k < n → 1 ≤ (f k).2 ∧ 0 ≤ (f k).1 ∧ (f k).1 < (f k).2 ∧ (f k).2 ≤ 160) (hx : CellsF w a n f) :
    Calls Try.prog 97 #[.slice a n c, .func (.func 98) #[.agg #[.int .i64 x, .int .i64 y]] #[]] w fun e w' => ∃ b : Bool, e = .returned (.bool b) ∧ Found (x, y) f n b ∧ Below w.heap.size w w' := by
  have HC := Lib.hid (indexMeets_any x y f n c a w hn a1 a2 a3 a4 hf hx)
  clear hf hx
  go_enter Try.func97, Try.ntmps97
  go_wp2_with fail
  refine HC.out.mono ?_
  rintro e w4 ⟨k, rfl, hk, h1, h2, hb4⟩
  have HB := Lib.hid hb4
  have HK := Lib.hid hk
  clear hb4 hk
  go_wp2_with fail
  go_ret
  exact ⟨_, rfl, HK.out, HB.out⟩

/-- The shares of the first j images, of P. -/
def shJ (ps : List Pt) (P : Int) (j : Nat) : Int := ((imT ps j).reverse.map fun a => P / a.2).sum
theorem shJ_zero (ps : List Pt) (P : Int) : shJ ps P 0 = 0 := by simp [shJ, imT_zero]
theorem shJ_step {ps : List Pt} {P : Int} {j : Nat} (h : j < ps.length) : shJ ps P (j + 1) = shJ ps P j + P / (imAt ps j).2 := by
  unfold shJ
  rw [imT_rev h, List.map_cons, List.sum_cons, Int.add_comm]
theorem shJ_end {ps : List Pt} {j : Nat} (h : ∀ a ∈ (imT ps j).reverse, 1 ≤ a.2) : shJ ps (prodI (imT ps j).reverse) j = shrI (imT ps j).reverse := by
  have hp := prodI_pos h
  unfold shJ
  rw [shr_sum _ h (Int.dvd_refl _), Int.ediv_self (by omega), Int.mul_one]
theorem pow_up8 : ∀ {m : Nat}, m ≤ 8 → (160 : Int) ^ m ≤ 429496729600000000 := by
  intro m h
  have : m = 0 ∨ m = 1 ∨ m = 2 ∨ m = 3 ∨ m = 4 ∨ m = 5 ∨ m = 6 ∨ m = 7 ∨ m = 8 := by omega
  rcases this with rfl | rfl | rfl | rfl | rfl | rfl | rfl | rfl | rfl <;> decide
theorem prod_in {ps : List Pt} (h : omB ps = true) {j : Nat} (hj : j ≤ ps.length) : 1 ≤ prodI (imT ps j).reverse ∧ prodI (imT ps j).reverse ≤ 429496729600000000 := by
  have hin := imT_in h hj
  have hl := (omB_len h).2
  refine ⟨prodI_pos (fun a ha => (hin a ha).1), Int.le_trans (shr_le hin).1 ?_⟩
  rw [List.length_reverse, imT_len hj]
  exact pow_up8 (by omega)

set_option maxRecDepth 100000 in
set_option maxHeartbeats 8000000 in
theorem isOneToOne_any (ps : List Pt) (v : Value) (w : World) (hg : omB ps = true) (h : OthIn w v ps) :
    Calls Try.prog 75 #[v] w fun e w' => e = .returned (.bool (oneB ps)) ∧ Below w.heap.size w w' := by
  obtain ⟨a, c, rfl, hx⟩ := h.rd
  have HIMG := Lib.hid (fun W (hb : Below w.heap.size w W) => images_any ps _ W hg (h.kept hb))
  have HLL := Lib.hid (imL_length ps)
  have HIA := Lib.hid (fun r (hr : r < ps.length) => imL_at hr)
  have HAT : Hid (∀ r, r < ps.length → 1 ≤ (imAt ps r).2 ∧ 0 ≤ (imAt ps r).1 ∧ (imAt ps r).1 < (imAt ps r).2 ∧ (imAt ps r).2 ≤ 160) := Lib.hid (fun r hr => ⟨(imAt_ok hg hr).1, (imAt_ok hg hr).2.1, (imAt_ok hg hr).2.2, imMod_le (omB_at hg hr) (omB_len hg).2⟩)
  have HNO := Lib.hid (fun i j (hj : j < ps.length) (hi : i < j) h => one_no hj hi h)
  have HFS := Lib.hid (fun j (h : j < ps.length) => free_step h)
  have HEND := Lib.hid (one_end (ps := ps))
  have HPS : Hid (∀ j, j < ps.length → prodI (imT ps (j + 1)).reverse = prodI (imT ps j).reverse * (imAt ps j).2) := Lib.hid (fun j h => by rw [imT_rev h, prodI])
  have HPI := Lib.hid (fun j (h : j ≤ ps.length) => prod_in hg h)
  have HSS := Lib.hid (fun P j (h : j < ps.length) => shJ_step (P := P) h)
  have HSE := Lib.hid (shJ_end (ps := ps) (j := ps.length) (fun a ha => (imT_in hg (Nat.le_refl _) a ha).1))
  have HP0 : Hid (prodI (imT ps 0).reverse = 1) := Lib.hid rfl
  have HF0 : Hid (freeI (imT ps 0).reverse = true) := Lib.hid rfl
  have HS0 := Lib.hid (fun P => shJ_zero ps P)
  have hl8 := omB_len hg
  obtain ⟨K, hK⟩ : ∃ K, ps.length = K := ⟨_, rfl⟩
  rw [hK] at HIMG HLL HIA HAT HNO HFS HEND HPS HPI HSS HSE hl8 ⊢
  obtain ⟨hl1, hl2⟩ := hl8
  have HB := Lib.hid (below_new w (.cells #[.slice a K c] 29))
  clear hg h hx hK
  go_enter Try.func75, Try.ntmps75
  go_wp2_with fail
  refine (HIMG.out _ HB.out).mono ?_
  rintro e w1 ⟨v1, rfl, him, hb1⟩
  have HB1 := Lib.hid (HB.out.trans (hb1.mono HB.out.size))
  obtain ⟨a1, c1, rfl, hc1, hc2, hx1⟩ := him.rd
  rw [HLL.out] at hc2 hx1 ⊢
  obtain ⟨g, rfl, _, hgl, _⟩ := hx1 0 (by omega)
  have HCF : Hid (CellsF w1 (some ⟨g, 0, none⟩) K (imAt ps)) := Lib.hid (fun k hk => by
    obtain ⟨g', he, _, h2, h3, h4⟩ := hx1 k hk
    rw [HIA.out k hk] at h3 h4
    exact ⟨g', he, h2, h3, h4⟩)
  clear him hx1 hb1 HB HIMG
  have hc3 : (K : Int) ≤ (c1 : Int) := by omega
  have hc4 : (c1 : Int) ≤ 9223372036854775807 := by unfold maxLen at hc1; omega
  go_wp2_with fail
  go_loopw [4, 6, 14] (fun p _ x wr => ∃ j : Nat, j ≤ K ∧ x = .int .i64 j ∧ p = .int .i64 (prodI (imT ps j).reverse) ∧ Below w1.heap.size w1 wr) (fun _ _ x _ => K - (RowKit.intOf x).toNat)
  case atStart => exact ⟨0, Nat.zero_le _, rfl, by rw [HP0.out], Below.refl _ _⟩
  case round =>
    obtain ⟨j, hj, rfl, rfl, hbel⟩ := hrel
    have HBR := Lib.hid hbel
    by_cases hlt : j < K
    · have hlt2 : (j : Int) < (K : Int) := by omega
      have hj0 : (0 : Int) ≤ (j : Int) := by omega
      obtain ⟨g', hge, hg, k0, k1⟩ := HCF.out.kept hbel j hlt
      cases hge
      have hat := HAT.out j hlt
      have hpj := HPI.out j (by omega)
      have hpn := HPI.out (j + 1) (by omega)
      have HPN := Lib.hid (HPS.out j hlt)
      rw [HPN.out] at hpn
      obtain ⟨q, hq⟩ : ∃ q, imAt ps j = q := ⟨_, rfl⟩
      rw [hq] at k0 k1 hat hpn HPN
      obtain ⟨x, y⟩ := q
      dsimp only at k0 k1 hat hpn HPN
      obtain ⟨p0, hp0⟩ : ∃ p0, prodI (imT ps j).reverse = p0 := ⟨_, rfl⟩
      rw [hp0] at hpj hpn HPN ⊢
      obtain ⟨p1, hp1⟩ : ∃ p1, p0 * y = p1 := ⟨_, rfl⟩
      have HP1 := Lib.hid hp1
      rw [hp1] at hpn
      have hwp : IntKind.i64.wrap (p0 * y) = p1 := by rw [hp1]; exact IntWalk.i64_in _ (by omega)
      obtain ⟨n1, n2⟩ := hpn
      have hne : ¬ (g = wr.heap.size) := by omega
      clear hbel hq hp0 hp1
      go_wp2_with fail
      exact ⟨⟨j + 1, hlt, by go_num, by rw [HPN.out, HP1.out], HBR.out.alloc HBR.out.size _⟩, by simp [RowKit.intOf]; omega⟩
    · obtain rfl : j = K := by omega
      have hlt2 : ¬ ((j : Int) < (j : Int)) := by omega
      have hpj := HPI.out j (by omega)
      have HEQ : Hid (freeI (imT ps j).reverse = true → oneB ps = decide (shJ ps (prodI (imT ps j).reverse) j = prodI (imT ps j).reverse)) := Lib.hid (fun h => by rw [HEND.out h, HSE.out])
      obtain ⟨P, hP⟩ : ∃ P, prodI (imT ps j).reverse = P := ⟨_, rfl⟩
      rw [hP] at hpj HEQ ⊢
      clear hbel hP
      go_wp2_with fail
      go_loopw [7, 8, 9, 25] (fun s _ _ x wx => ∃ i : Nat, i ≤ j ∧ x = .int .i64 i ∧ s = .int .i64 (shJ ps P i) ∧ 0 ≤ shJ ps P i ∧ shJ ps P i ≤ (i : Int) * 429496729600000000 ∧ freeI (imT ps i).reverse = true ∧ Below w1.heap.size w1 wx) (fun _ _ _ x _ => j - (RowKit.intOf x).toNat)
      case atStart => exact ⟨0, Nat.zero_le _, rfl, by rw [HS0.out], by rw [HS0.out]; omega, by rw [HS0.out]; omega, HF0.out, HBR.out⟩
      case round =>
        clear HBR
        obtain ⟨i, hi, rfl, rfl, hs0, hs1, hfr, hbel⟩ := hrel
        have HBR := Lib.hid hbel
        have HFR := Lib.hid hfr
        by_cases hij : i < j
        · have hij2 : (i : Int) < (j : Int) := by omega
          have hi0 : (0 : Int) ≤ (i : Int) := by omega
          have hic : (i : Int) ≤ (c1 : Int) := by omega
          obtain ⟨g', hge, hg, k0, k1⟩ := HCF.out.kept hbel i hij
          cases hge
          have hat := HAT.out i hij
          have HSN := Lib.hid (HSS.out P i hij)
          have HFN := Lib.hid (fun h => HFS.out i hij HFR.out h)
          have HNOI := Lib.hid (fun k (hk : k < i) h => HNO.out k i hij hk h)
          obtain ⟨q, hq⟩ : ∃ q, imAt ps i = q := ⟨_, rfl⟩
          rw [hq] at k0 k1 hat HSN HFN HNOI
          obtain ⟨x, y⟩ := q
          dsimp only at k0 k1 hat HSN
          obtain ⟨a1, a2, a3, a4⟩ := hat
          have HC := Lib.hid (fun W (hb : Below w1.heap.size w1 W) => containsMeets_any x y (imAt ps) i c1 (some ⟨g, 0, none⟩) W (by omega) a1 a2 a3 a4 (fun k hk => HAT.out k (by omega)) ((HCF.out.kept hb).le (by omega)))
          have hde : P.tdiv y = P / y := Int.tdiv_eq_ediv_of_nonneg (by omega)
          have hd0 : 0 ≤ P / y := Int.ediv_nonneg (by omega) (by omega)
          have hd1 : P / y ≤ P := Int.ediv_le_self _ (by omega)
          have HST : Hid (shJ ps P (i + 1) = shJ ps P i + P.tdiv y) := Lib.hid (by rw [HSN.out, hde])
          have ht0 : 0 ≤ P.tdiv y := by omega
          have ht1 : P.tdiv y ≤ 429496729600000000 := by omega
          have hd2 : P / y ≤ 429496729600000000 := by omega
          have hy0 : (y == 0) = false := by simp; omega
          have hy1 : ¬ (y = 0) := by omega
          have hsn0 : Hid (0 ≤ shJ ps P (i + 1)) := Lib.hid (by rw [HSN.out]; omega)
          have hsn1 : Hid (shJ ps P (i + 1) ≤ ((i + 1 : Nat) : Int) * 429496729600000000) := Lib.hid (by rw [HSN.out]; omega)
          obtain ⟨s0, hsh⟩ : ∃ s0, shJ ps P i = s0 := ⟨_, rfl⟩
          rw [hsh] at hs0 hs1 HSN HST ⊢
          have hs2 : s0 ≤ 3006477107200000000 := by omega
          have hne : ¬ (g = wr.heap.size) := by omega
          have HBX := Lib.hid (below_new wr (.cells #[.int .i64 x, .int .i64 y] 85))
          have HBA := Lib.hid (HBR.out.alloc HBR.out.size (.cells #[.int .i64 x, .int .i64 y] 85))
          clear hbel hfr hq hde hsh
          go_upto_region 12 with fail
          go_cut [35] from 30 to 35 (fun s35 wy => ∃ b : Bool, s35 = .bool b ∧ Hid (Found (x, y) (imAt ps) i b ∧ Below (wr.alloc (.cells #[.int .i64 x, .int .i64 y] 85)).heap.size (wr.alloc (.cells #[.int .i64 x, .int .i64 y] 85)) wy))
          case first =>
            go_region_with (go_at_call 97; refine (HC.out _ (by first | exact HBA.out | exact HBA.out.drew | exact HBA.out.drew.drew)).mono ?_; rintro e w5 ⟨b, rfl, hfd, hb5⟩; have HFD := Lib.hid hfd; have HB5 : Hid (Below (wr.alloc (.cells #[.int .i64 x, .int .i64 y] 85)).heap.size (wr.alloc (.cells #[.int .i64 x, .int .i64 y] 85)) w5) := Lib.hid (by first | exact hb5 | exact (Below.refl _ _).drew.trans hb5 | exact (Below.refl _ _).drew.drew.trans hb5); clear hfd hb5)
            all_goals
              go_wp2_with fail
              go_meet
              case rel => exact ⟨_, rfl, Lib.hid ⟨HFD.out, by first | exact HB5.out | exact HB5.out.drew | exact HB5.out.drew.drew⟩⟩
          case rest =>
            obtain ⟨b, rfl, HCC⟩ := hcut
            have HB6 := Lib.hid (HBA.out.trans (HCC.out.2.mono HBA.out.size))
            have m1 : wc.cell? ⟨wr.heap.size, 1, none⟩ = some (.int .i64 y) := (HCC.out.2.cell (p := ⟨wr.heap.size, 1, none⟩) (by simp)).trans (by go_simp)
            have HFD := Lib.hid HCC.out.1
            clear k0 k1 HCC
            cases b with
            | true =>
              go_wp2_with fail
              go_ret
              obtain ⟨k, hk, hm⟩ := HFD.out.1 rfl
              exact ⟨ret_bool (HNOI.out k hk hm).symm, HB1.out.trans (HB6.out.mono HB1.out.size)⟩
            | false =>
              go_wp2_with fail
              exact ⟨⟨i + 1, hij, by go_num, (by first | rw [HST.out] | rw [HSN.out]), hsn0.out, hsn1.out, HFN.out (HFD.out.2 rfl), HB6.out⟩, by simp [RowKit.intOf]; omega⟩
        · obtain rfl : i = j := by omega
          have hij2 : ¬ ((i : Int) < (i : Int)) := by omega
          have HE := Lib.hid (HEQ.out HFR.out)
          clear hbel hfr
          generalize shJ ps P i = s0 at *
          go_wp2_with fail
          go_ret
          exact ⟨ret_bool (by rw [HE.out]; first | rfl | simp), HB1.out.trans (HBR.out.mono HB1.out.size)⟩
end Go.Proofs.Ytbhmplccjaijjaa
