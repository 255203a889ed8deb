/-
  'CountLeft', 'CountFallingAt', 'LeftShare' of both.
-/
import Derived.Test.YtencblbkbalmcaaCnt
import Derived.Test.YtencblbkbalmcaaCns
import Derived.Test.YtencblbkbalmcaaGcdU
import Derived.Test.YtencblbkbalmcaaShrM
import Derived.BigQuiet
import Derived.Deep.QuietTactic
namespace Go.Proofs.Ytencblbkbalmcaa
open Go.RowKit
set_option linter.unusedVariables false

theorem ret_ib {x y : Int} {a b : Bool} (h : x = y) (h' : a = b) : Ending.returned (.tuple #[.int .i64 x, .bool a]) = .returned (.tuple #[.int .i64 y, .bool b]) := by rw [h, h']
theorem ret_iib {x y z u : Int} {a b : Bool} (h : x = y) (h2 : z = u) (h' : a = b) : Ending.returned (.tuple #[.int .i64 x, .int .i64 z, .bool a]) = .returned (.tuple #[.int .i64 y, .int .i64 u, .bool b]) := by rw [h, h2, h']
theorem isWide_any (k : Int) (w : World) :
    Calls Try.prog 24 #[.int .i64 k] w fun e w' => e = .returned (.bool (inB k 0 30)) ∧ w = w' := by
  by_cases h1 : 0 ≤ k <;> by_cases h2 : k ≤ 30
  all_goals
    go_enter Try.func24, Try.ntmps24
    go_wp2
    go_ret
    simp [inB, *]
theorem rsPower_any (t p k m : Int) (w : World) :
    Calls Try.prog 22 #[.agg #[.int .i64 t, .int .i64 p], .int .i64 k, .int .i64 m] w fun e w' => e = .returned (.bool (goodB t p && inB k 0 m)) ∧ Below w.heap.size w w' := by
  have HM := Lib.hid (fun w => mpGood_any t p w)
  cases hg : goodB t p
  all_goals
    rw [hg] at HM
    clear hg
    go_enter Try.func22, Try.ntmps22
    go_wp2_with fail
    refine (HM.out _).mono ?_
    rintro e w1 ⟨rfl, hb1⟩
    obtain ⟨c0, c1, hz, hb⟩ := map_block hb1
    clear hb1
    go_wp2_with (go_at_call 34; refine (l1In_any _ _ _ _).mono ?_; rintro e w' ⟨rfl, rfl⟩)
    go_ret
    exact ⟨rfl, hb⟩

/-- What CountLeft comes to. -/
def ctl (t p k : Int) : Int × Bool := if (goodB t p && inB k 0 30) = true then (((lf t k.toNat : Nat) : Int), true) else (0, false)
theorem inB_nat {k m : Int} (h : inB k 0 m = true) : ∃ K : Nat, k = K ∧ (K : Int) ≤ m := ⟨k.toNat, by simp [inB] at h; omega, by simp [inB] at h; omega⟩

theorem sCountLeft (t p k : Int) (w : World) :
    Calls Try.prog 12 #[.agg #[.int .i64 t, .int .i64 p], .int .i64 k] w fun e w' => e = .returned (.tuple #[.int .i64 (ctl t p k).1, .bool (ctl t p k).2]) ∧ Below w.heap.size w w' := by
  have HR := Lib.hid (fun w => rsPower_any t p k 30 w)
  cases ha : (goodB t p && inB k 0 30)
  · have HY : Hid (ctl t p k = (0, false)) := Lib.hid (by rw [ctl, ha]; rfl)
    rw [ha] at HR
    clear ha
    go_enter Try.func12, Try.ntmps12
    go_wp2_with fail
    refine (HR.out _).mono ?_
    rintro e w1 ⟨rfl, hb1⟩
    obtain ⟨c0, c1, hz, hb⟩ := map_block hb1
    clear hb1
    go_wp2_with fail
    go_ret2
    exact ⟨ret_ib (by rw [HY.out]) (by rw [HY.out]), hb⟩
  · obtain ⟨hg, hk⟩ : goodB t p = true ∧ inB k 0 30 = true := by simpa using ha
    obtain ⟨K, rfl, hK⟩ := inB_nat hk
    have HY : Hid (ctl t p K = (((lf t K : Nat) : Int), true)) := Lib.hid (by rw [ctl, ha]; rfl)
    have HL := Lib.hid (fun w => rsLeft_any t p K w hg (by omega))
    rw [ha] at HR
    clear ha hg hk
    generalize lf t K = A at HY HL
    go_enter Try.func12, Try.ntmps12
    go_wp2_with fail
    refine (HR.out _).mono ?_
    rintro e w1 ⟨rfl, hb1⟩
    obtain ⟨c0, c1, hz, hb⟩ := map_block hb1
    clear hb1
    go_wp2_with fail
    refine (HL.out _).mono ?_
    rintro e w2 ⟨rfl, hb2⟩
    have HB := Lib.hid (hb.trans (hb2.mono hb.size))
    clear hb2 hb c0 c1
    go_wp2_with fail
    go_ret2
    exact ⟨ret_ib (by rw [HY.out]) (by rw [HY.out]), HB.out⟩

theorem iCountLeft (t p k : Int) (w : World) :
    Calls Try.prog 13 #[.agg #[.int .i64 t, .int .i64 p], .int .i64 k] w fun e w' => e = .returned (.tuple #[.int .i64 (ctl t p k).1, .bool (ctl t p k).2]) ∧ Below w.heap.size w w' := by
  have HM := Lib.hid (fun w => isMap_any t p w)
  have HW := Lib.hid (fun w => isWide_any k w)
  cases hg : goodB t p
  · have HY : Hid (ctl t p k = (0, false)) := Lib.hid (by rw [ctl, hg]; rfl)
    rw [hg] at HM
    clear hg
    go_enter Try.func13, Try.ntmps13
    go_wp2_with fail
    refine (HM.out _).mono ?_
    rintro e w1 ⟨rfl, hb1⟩
    obtain ⟨c0, c1, hz, hb⟩ := map_block hb1
    clear hb1
    go_wp2_with fail
    go_ret2
    exact ⟨ret_ib (by rw [HY.out]) (by rw [HY.out]), hb⟩
  · rw [hg] at HM
    cases hk : inB k 0 30
    · have HY : Hid (ctl t p k = (0, false)) := Lib.hid (by rw [ctl, hg, hk]; rfl)
      rw [hk] at HW
      clear hg hk
      go_enter Try.func13, Try.ntmps13
      go_wp2_with fail
      refine (HM.out _).mono ?_
      rintro e w1 ⟨rfl, hb1⟩
      obtain ⟨c0, c1, hz, hb⟩ := map_block hb1
      clear hb1
      go_wp2_with (go_at_call 24; refine (HW.out _).mono ?_; rintro e w' ⟨rfl, rfl⟩)
      go_ret2
      exact ⟨ret_ib (by rw [HY.out]) (by rw [HY.out]), hb⟩
    · obtain ⟨K, rfl, hK⟩ := inB_nat hk
      have HY : Hid (ctl t p K = (((lf t K : Nat) : Int), true)) := Lib.hid (by rw [ctl, hg, hk]; rfl)
      have HL := Lib.hid (fun w => countLeft_any t p K w hg (by omega))
      rw [hk] at HW
      clear hg hk
      generalize lf t K = A at HY HL
      go_enter Try.func13, Try.ntmps13
      go_wp2_with fail
      refine (HM.out _).mono ?_
      rintro e w1 ⟨rfl, hb1⟩
      obtain ⟨c0, c1, hz, hb⟩ := map_block hb1
      clear hb1
      go_wp2_with (go_at_call 24; refine (HW.out _).mono ?_; rintro e w' ⟨rfl, rfl⟩)
      refine (HL.out _).mono ?_
      rintro e w2 ⟨rfl, hb2⟩
      have HB := Lib.hid (hb.trans (hb2.mono hb.size))
      clear hb2 hb c0 c1
      go_wp2_with fail
      go_ret2
      exact ⟨ret_ib (by rw [HY.out]) (by rw [HY.out]), HB.out⟩

/-- What CountFallingAt comes to. -/
def cfa (t p k : Int) : Int × Bool := if (goodB t p && inB k 0 30) = true ∧ k ≠ 0 then (((fk t k.toNat : Nat) : Int), true) else (0, false)

theorem sCountFallingAt (t p k : Int) (w : World) :
    Calls Try.prog 10 #[.agg #[.int .i64 t, .int .i64 p], .int .i64 k] w fun e w' => e = .returned (.tuple #[.int .i64 (cfa t p k).1, .bool (cfa t p k).2]) ∧ Below w.heap.size w w' := by
  have HR := Lib.hid (fun w => rsPower_any t p k 30 w)
  cases ha : (goodB t p && inB k 0 30)
  · have HY : Hid (cfa t p k = (0, false)) := Lib.hid (by rw [cfa, if_neg (by simp [ha])])
    rw [ha] at HR
    clear ha
    go_enter Try.func10, Try.ntmps10
    go_wp2_with fail
    refine (HR.out _).mono ?_
    rintro e w1 ⟨rfl, hb1⟩
    obtain ⟨c0, c1, hz, hb⟩ := map_block hb1
    clear hb1
    go_wp2_with fail
    go_ret2
    exact ⟨ret_ib (by rw [HY.out]) (by rw [HY.out]), hb⟩
  · obtain ⟨hg, hk⟩ : goodB t p = true ∧ inB k 0 30 = true := by simpa using ha
    obtain ⟨K, rfl, hK⟩ := inB_nat hk
    by_cases h0 : K = 0
    · have HY : Hid (cfa t p K = (0, false)) := Lib.hid (by rw [cfa, if_neg (by simp [h0])])
      have h0' : ((K : Int) == 0) = true := by simp [h0]
      rw [ha] at HR
      clear ha hg hk h0
      go_enter Try.func10, Try.ntmps10
      go_wp2_with fail
      refine (HR.out _).mono ?_
      rintro e w1 ⟨rfl, hb1⟩
      obtain ⟨c0, c1, hz, hb⟩ := map_block hb1
      clear hb1
      go_wp2_with fail
      go_ret2
      exact ⟨ret_ib (by rw [HY.out]) (by rw [HY.out]), hb⟩
    · have HY : Hid (cfa t p K = (((fk t K : Nat) : Int), true)) := Lib.hid (by rw [cfa, if_pos ⟨ha, by omega⟩]; rfl)
      have h0' : ((K : Int) == 0) = false := by simp; omega
      have HL := Lib.hid (fun w => rsCounts_any t p K w hg (by omega))
      rw [ha] at HR
      clear ha hg hk h0
      generalize fk t K = A at HY HL
      go_enter Try.func10, Try.ntmps10
      go_wp2_with fail
      refine (HR.out _).mono ?_
      rintro e w1 ⟨rfl, hb1⟩
      obtain ⟨c0, c1, hz, hb⟩ := map_block hb1
      clear hb1
      go_wp2_with fail
      refine (HL.out _).mono ?_
      rintro e w2 ⟨v, rfl, _, hb2⟩
      have HB := Lib.hid (hb.trans (hb2.mono hb.size))
      clear hb2 hb c0 c1
      go_wp2_with fail
      go_ret2
      exact ⟨ret_ib (by rw [HY.out]) (by rw [HY.out]), HB.out⟩

theorem wraps_cf {k1 : Int} {A C : Nat} (h1 : 1 ≤ k1) (h2 : k1 ≤ 30) (h3 : (A : Int) ≤ 2147483648) (h4 : (C : Int) ≤ 2147483648) : IntKind.i64.wrap (k1 - 1) = k1 - 1 ∧ IntKind.i64.wrap (2 * (A : Int)) = 2 * (A : Int) ∧ IntKind.i64.wrap (2 * (A : Int) - (C : Int)) = 2 * (A : Int) - (C : Int) := by
  rw [IntKind.wrap_i64, IntKind.wrap_i64, IntKind.wrap_i64]
  omega
set_option maxHeartbeats 1000000 in
theorem iCountFallingAt (t p k : Int) (w : World) :
    Calls Try.prog 11 #[.agg #[.int .i64 t, .int .i64 p], .int .i64 k] w fun e w' => e = .returned (.tuple #[.int .i64 (cfa t p k).1, .bool (cfa t p k).2]) ∧ Below w.heap.size w w' := by
  have HM := Lib.hid (fun w => isMap_any t p w)
  have HW := Lib.hid (fun w => isWide_any k w)
  cases hg : goodB t p
  · have HY : Hid (cfa t p k = (0, false)) := Lib.hid (by rw [cfa, if_neg (by simp [hg])])
    rw [hg] at HM
    clear hg
    go_enter Try.func11, Try.ntmps11
    go_wp2_with fail
    refine (HM.out _).mono ?_
    rintro e w1 ⟨rfl, hb1⟩
    obtain ⟨c0, c1, hz, hb⟩ := map_block hb1
    clear hb1
    go_wp2_with fail
    go_ret2
    exact ⟨ret_ib (by rw [HY.out]) (by rw [HY.out]), hb⟩
  · rw [hg] at HM
    cases hk : inB k 0 30
    · have HY : Hid (cfa t p k = (0, false)) := Lib.hid (by rw [cfa, if_neg (by simp [hk])])
      rw [hk] at HW
      clear hg hk
      go_enter Try.func11, Try.ntmps11
      go_wp2_with fail
      refine (HM.out _).mono ?_
      rintro e w1 ⟨rfl, hb1⟩
      obtain ⟨c0, c1, hz, hb⟩ := map_block hb1
      clear hb1
      go_wp2_with (go_at_call 24; refine (HW.out _).mono ?_; rintro e w' ⟨rfl, rfl⟩)
      go_ret2
      exact ⟨ret_ib (by rw [HY.out]) (by rw [HY.out]), hb⟩
    · obtain ⟨K, rfl, hK⟩ := inB_nat hk
      rw [hk] at HW
      by_cases h0 : K = 0
      · have HY : Hid (cfa t p K = (0, false)) := Lib.hid (by rw [cfa, if_neg (by simp [h0])])
        have h0' : ((K : Int) == 0) = true := by simp [h0]
        clear hg hk h0
        go_enter Try.func11, Try.ntmps11
        go_wp2_with fail
        refine (HM.out _).mono ?_
        rintro e w1 ⟨rfl, hb1⟩
        obtain ⟨c0, c1, hz, hb⟩ := map_block hb1
        clear hb1
        go_wp2_with (go_at_call 24; refine (HW.out _).mono ?_; rintro e w' ⟨rfl, rfl⟩)
        go_ret2
        exact ⟨ret_ib (by rw [HY.out]) (by rw [HY.out]), hb⟩
      · obtain ⟨J, hJK⟩ : ∃ J, K = J + 1 := ⟨K - 1, by omega⟩
        have HY : Hid (cfa t p (K : Int) = (2 * ((lf t J : Nat) : Int) - ((lf t K : Nat) : Int), true)) := Lib.hid (by
          rw [cfa, if_pos ⟨by rw [hg, hk]; rfl, by omega⟩, hJK, ← fk_lf]; rfl)
        have HL := Lib.hid (fun w => countLeft_any t p K w hg (by omega))
        have HL2 := Lib.hid (fun w => countLeft_any t p J w hg (by omega))
        have hl1 : lf t J ≤ 2147483648 := Nat.le_trans (lf_le t J) (pow30 (by omega))
        have hl2 : lf t K ≤ 2147483648 := Nat.le_trans (lf_le t K) (pow30 (by omega))
        obtain ⟨k1, hk1⟩ : ∃ k1 : Int, k1 = (K : Int) := ⟨_, rfl⟩
        obtain ⟨j0, hj0⟩ : ∃ j0 : Int, j0 = (J : Int) := ⟨_, rfl⟩
        have h0' : (k1 == 0) = false := by simp; omega
        have hJ : k1 - 1 = j0 := by omega
        have hkb : 1 ≤ k1 := by omega
        have hjb : 0 ≤ j0 := by omega
        have hjt : j0 ≤ 30 := by omega
        have hkt : k1 ≤ 30 := by omega
        rw [← hk1] at HL HW HY ⊢
        rw [← hj0, ← hJ] at HL2
        generalize lf t J = A at HY HL2 hl1
        generalize lf t K = C at HY HL hl2
        have hl1' : (A : Int) ≤ 2147483648 := by omega
        have hl2' : (C : Int) ≤ 2147483648 := by omega
        clear hl1 hl2 hg hk h0 hk1 hJ hjb hjt hj0 hJK hK
        go_enter Try.func11, Try.ntmps11
        go_wp2_with fail
        refine (HM.out _).mono ?_
        rintro e w1 ⟨rfl, hb1⟩
        obtain ⟨c0, c1, hz, hb⟩ := map_block hb1
        have HB := Lib.hid hb
        clear hb1 hb
        go_wp2_with (go_at_call 24; refine (HW.out _).mono ?_; rintro e w' ⟨rfl, rfl⟩)
        obtain ⟨hw1, hw2, hw3⟩ := wraps_cf hkb hkt hl1' hl2'
        go_region_with (first
          | (go_at_call 25; refine (HL2.out _).mono ?_; rintro e w2 ⟨rfl, hb2⟩; have d0 := kept_cell hb2 hz c0; have d1 := kept_cell hb2 hz c1; clear HL2)
          | (go_at_call 25; refine (HL.out _).mono ?_; rintro e w3 ⟨rfl, hb3⟩; clear HL))
        all_goals
          clear hw1 hw2 hw3
          go_wp2_with fail
          go_ret2
          refine ⟨ret_ib (by rw [HY.out]) (by rw [HY.out]), ?_⟩
          first
            | exact (HB.out.drew.trans (hb2.mono HB.out.size)).trans (hb3.mono (HB.out.drew.trans (hb2.mono HB.out.size)).size)
            | exact (HB.out.drew.trans (hb3.mono HB.out.size)).trans (hb2.mono (HB.out.drew.trans (hb3.mono HB.out.size)).size)
            | exact (HB.out.trans (hb2.mono HB.out.size)).trans (hb3.mono (HB.out.trans (hb2.mono HB.out.size)).size)
            | exact (HB.out.trans (hb3.mono HB.out.size)).trans (hb2.mono (HB.out.trans (hb3.mono HB.out.size)).size)
/-- What LeftShare comes to. -/
def lsh (t p k : Int) : Int × Int × Bool := if (goodB t p && inB k 0 30) = true then ((((hlf (lf t k.toNat) k.toNat).1 : Nat) : Int), (2 : Int) ^ (hlf (lf t k.toNat) k.toNat).2, true) else (0, 0, false)

set_option maxHeartbeats 1000000 in
theorem sLeftShare (t p k : Int) (w : World) :
    Calls Try.prog 14 #[.agg #[.int .i64 t, .int .i64 p], .int .i64 k] w fun e w' => e = .returned (.tuple #[.int .i64 (lsh t p k).1, .int .i64 (lsh t p k).2.1, .bool (lsh t p k).2.2]) ∧ Below w.heap.size w w' := by
  have HR := Lib.hid (fun w => rsPower_any t p k 30 w)
  cases ha : (goodB t p && inB k 0 30)
  · have HY : Hid (lsh t p k = (0, 0, false)) := Lib.hid (by rw [lsh, ha]; rfl)
    rw [ha] at HR
    clear ha
    go_enter Try.func14, Try.ntmps14
    go_wp2_with fail
    refine (HR.out _).mono ?_
    rintro e w1 ⟨rfl, hb1⟩
    obtain ⟨c0, c1, hz, hb⟩ := map_block hb1
    clear hb1
    go_wp2_with fail
    refine bodyPost_ret (v := .tuple #[.int .i64 0, .int .i64 0, .bool false]) (by simp [results, Try.results14, go_sem]) rfl ⟨ret_iib (by rw [HY.out]) (by rw [HY.out]) (by rw [HY.out]), hb⟩
  · obtain ⟨hg, hk⟩ : goodB t p = true ∧ inB k 0 30 = true := by simpa using ha
    obtain ⟨K, rfl, hK⟩ := inB_nat hk
    have HY : Hid (lsh t p K = ((((hlf (lf t K) K).1 : Nat) : Int), (2 : Int) ^ (hlf (lf t K) K).2, true)) := Lib.hid (by rw [lsh, ha]; rfl)
    have HL := Lib.hid (fun w => rsLeft_any t p K w hg (by omega))
    have hA := lf_le t K
    have hA2 : lf t K ≤ 2147483648 := Nat.le_trans hA (pow30 (by omega))
    obtain ⟨pw1, pw0⟩ := pow2_30 (k := K) (by omega)
    have hwr : IntKind.i64.wrap ((2 : Int) ^ K) = 2 ^ K := by rw [IntKind.wrap_i64]; omega
    rw [ha] at HR
    have hK0 : 0 ≤ (K : Int) := by omega
    clear ha hg hk hA
    generalize lf t K = A at HY HL hA2
    have HA2 := Lib.hid hA2
    have HK := Lib.hid hK
    clear hA2
    go_enter Try.func14, Try.ntmps14
    go_wp2_with fail
    refine (HR.out _).mono ?_
    rintro e w1 ⟨rfl, hb1⟩
    obtain ⟨c0, c1, hz, hb⟩ := map_block hb1
    have HB := Lib.hid hb
    clear hb1 hb
    go_wp2_with fail
    go_region_with (go_at_call 26; refine (HL.out _).mono ?_; rintro e w2 ⟨rfl, hb2⟩)
    all_goals
      have HB2 : Hid (Below w.heap.size w w2) := Lib.hid (by first | exact HB.out.drew.trans (hb2.mono HB.out.size) | exact HB.out.trans (hb2.mono HB.out.size))
      clear hb2 hwr
      go_wp2_with fail
      go_simp
      go_loop [7, 8] (fun x y => ∃ n d : Nat, d ≤ K ∧ n ≤ 2147483648 ∧ hlf n d = hlf A K ∧ x = .int .i64 (n : Int) ∧ y = .int .i64 ((2 : Int) ^ d)) (fun _ y => (intOf y).toNat)
      case atStart => exact ⟨A, K, Nat.le_refl _, HA2.out, rfl, rfl, rfl⟩
      case round =>
        obtain ⟨n, d, hd, hn, heq, rfl, rfl⟩ := hrel
        have hn' : (n : Int) ≤ 2147483648 := by omega
        cases d with
        | zero =>
          rw [hlf_zero] at heq
          have HE := Lib.hid heq
          clear heq pw0 pw1
          go_wp2_with fail
          refine bodyPost_ret (v := .tuple #[.int .i64 (n : Int), .int .i64 1, .bool true]) (by simp [results, Try.results14, go_sem]) rfl ⟨ret_iib (by rw [HY.out, ← HE.out]) (by rw [HY.out, ← HE.out]; rfl) (by rw [HY.out]), HB2.out⟩
        | succ d =>
          obtain ⟨q1, q0⟩ := pow2_30 (k := d) (by have := HK.out; omega)
          have e2 : (2 : Int) ^ (d + 1) = 2 ^ d * 2 := Int.pow_succ _ _
          obtain ⟨P, hP⟩ : ∃ P : Int, (2 : Int) ^ d = P := ⟨_, rfl⟩
          rw [hP] at e2 q1 q0
          rw [e2]
          have hgt : 1 < P * 2 := by omega
          have hdv : (P * 2).tdiv 2 = P := by rw [Int.mul_tdiv_cancel _ (by decide)]
          by_cases hev : n % 2 = 0
          · have heq2 := heq
            rw [hlf_even hev] at heq2
            have HE := Lib.hid heq2
            have hm : ((n : Int) % 2 == 0) = true := by simp; omega
            clear heq heq2 hev
            go_wp2_with fail
            exact ⟨⟨n / 2, d, by omega, by omega, HE.out, congrArg (Value.int .i64) (by omega), by rw [hP]⟩, by simp [intOf]; omega⟩
          · have hev1 : n % 2 = 1 := by omega
            rw [hlf_odd (by omega)] at heq
            have HE := Lib.hid heq
            have hm : ((n : Int) % 2 == 0) = false := by simp; omega
            clear heq hev
            go_wp2_with fail
            refine bodyPost_ret (v := .tuple #[.int .i64 (n : Int), .int .i64 (P * 2), .bool true]) (by simp [results, Try.results14, go_sem]) rfl ⟨ret_iib (by rw [HY.out, ← HE.out]) (by rw [HY.out, ← HE.out, ← e2]) (by rw [HY.out]), HB2.out⟩

theorem lowT_hlf (n d : Nat) : lowT (n : Int) ((2 : Int) ^ d) = ((((hlf n d).1 : Nat) : Int), (2 : Int) ^ (hlf n d).2) := by
  obtain ⟨h1, h2⟩ := hlf_gcd d n
  have hp : ((2 : Int) ^ d) = ((2 ^ d : Nat) : Int) := by simp
  have hp2 : ((2 : Int) ^ (hlf n d).2) = ((2 ^ (hlf n d).2 : Nat) : Int) := by simp
  have h0 : (0 : Int) < 2 ^ d := Int.pow_pos (by decide)
  rw [lowT, if_neg (by omega), hp2, h1, h2, hp]
  rw [Int.tdiv_eq_ediv_of_nonneg (by omega), Int.tdiv_eq_ediv_of_nonneg (by omega)]
  rw [Int.natCast_ediv, Int.natCast_ediv]
  rfl

set_option maxHeartbeats 1000000 in
theorem iLeftShare (t p k : Int) (w : World) :
    Calls Try.prog 15 #[.agg #[.int .i64 t, .int .i64 p], .int .i64 k] w fun e w' => e = .returned (.tuple #[.int .i64 (lsh t p k).1, .int .i64 (lsh t p k).2.1, .bool (lsh t p k).2.2]) ∧ Below w.heap.size w w' := by
  have HC := Lib.hid (fun w => iCountLeft t p k w)
  cases ha : (goodB t p && inB k 0 30)
  · have HY : Hid (lsh t p k = (0, 0, false)) := Lib.hid (by rw [lsh, ha]; rfl)
    rw [show ctl t p k = (0, false) by rw [ctl, ha]; rfl] at HC
    clear ha
    go_enter Try.func15, Try.ntmps15
    go_wp2_with fail
    refine (HC.out _).mono ?_
    rintro e w1 ⟨rfl, hb1⟩
    obtain ⟨c0, c1, hz, hb⟩ := map_block hb1
    clear hb1
    go_wp2_with fail
    refine bodyPost_ret (v := .tuple #[.int .i64 0, .int .i64 0, .bool false]) (by simp [results, Try.results15, go_sem]) rfl ⟨ret_iib (by rw [HY.out]) (by rw [HY.out]) (by rw [HY.out]), hb⟩
  · obtain ⟨hg, hk⟩ : goodB t p = true ∧ inB k 0 30 = true := by simpa using ha
    obtain ⟨K, rfl, hK⟩ := inB_nat hk
    have HY : Hid (lsh t p K = ((((hlf (lf t K) K).1 : Nat) : Int), (2 : Int) ^ (hlf (lf t K) K).2, true)) := Lib.hid (by rw [lsh, ha]; rfl)
    rw [show ctl t p K = (((lf t K : Nat) : Int), true) by rw [ctl, ha]; rfl] at HC
    have hA2 : lf t K ≤ 2147483648 := Nat.le_trans (lf_le t K) (pow30 (by omega))
    obtain ⟨pw1, pw0⟩ := pow2_30 (k := K) (by omega)
    have hwr : IntKind.i64.wrap ((2 : Int) ^ K) = 2 ^ K := by rw [IntKind.wrap_i64]; omega
    have hK0 : 0 ≤ (K : Int) := by omega
    have HL := Lib.hid (fun w => lowestTerms_any ((lf t K : Nat) : Int) ((2 : Int) ^ K) w (by omega) (by omega) (by omega) (by omega) (by omega))
    rw [lowT_hlf] at HL
    generalize lf t K = A at HY HC HL hA2
    clear ha hg hk hA2
    go_enter Try.func15, Try.ntmps15
    go_wp2_with fail
    refine (HC.out _).mono ?_
    rintro e w1 ⟨rfl, hb1⟩
    obtain ⟨c0, c1, hz, hb⟩ := map_block hb1
    have HB := Lib.hid hb
    clear hb1 hb
    go_wp2_with fail
    refine (HL.out _).mono ?_
    rintro e w2 ⟨rfl, hb2⟩
    have HB2 := Lib.hid (HB.out.trans (hb2.mono HB.out.size))
    clear hb2 c0 c1 hwr
    go_wp2_with fail
    refine bodyPost_ret (v := .tuple #[.int .i64 (((hlf A K).1 : Nat) : Int), .int .i64 ((2 : Int) ^ (hlf A K).2), .bool true]) (by simp [results, Try.results15, go_sem]) rfl ⟨ret_iib (by rw [HY.out]) (by rw [HY.out]) (by rw [HY.out]), HB2.out⟩
end Go.Proofs.Ytencblbkbalmcaa
