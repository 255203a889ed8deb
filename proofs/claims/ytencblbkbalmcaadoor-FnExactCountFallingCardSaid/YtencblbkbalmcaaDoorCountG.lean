/-
  'CountFalling' of both.
-/
import Derived.Test.YtencblbkbalmcaaDoorCountF
import Derived.Test.YtencblbkbalmcaaDoorWordI
namespace Go.Proofs.YtencblbkbalmcaaDoor
open Go.RowKit
set_option linter.unusedVariables false

/-- Are there a map and a length? -/
def askK (t p k : Int) : Bool := goodB t p && inB k 0 15
/-- How many words of a length fall. -/
def cfl (t p k : Int) : Nat := if askK t p k = true then (ptL t k.toNat (2 ^ k.toNat)).length else 0
theorem ret_ck {x y : Int} {a b : Bool} (h : x = y) (h' : a = b) : Ending.returned (.tuple #[.int .i64 x, .bool a]) = .returned (.tuple #[.int .i64 y, .bool b]) := by rw [h, h']

set_option maxHeartbeats 1000000 in
theorem iCountFalling (t p k : Int) (w : World) (htab : Tab w) :
    Calls Tryd.prog 13 #[.agg #[.int .i64 t, .int .i64 p], .int .i64 k] w fun e w' => e = .returned (.tuple #[.int .i64 (cfl t p k : Nat), .bool (askK t p k)]) ∧ Below w.heap.size w w' := by
  have HM := Lib.hid (fun w => isMap_any t p w)
  have HL := Lib.hid (fun w => isLength_any k w)
  have HT := Lib.hid htab
  clear htab
  cases hg : goodB t p
  · have HA : Hid (askK t p k = false) := Lib.hid (by rw [askK, hg]; rfl)
    have HY : Hid (cfl t p k = 0) := Lib.hid (by rw [cfl, if_neg (by rw [HA.out]; simp)])
    rw [hg] at HM
    clear hg
    go_enter Tryd.func13, Tryd.ntmps13
    go_wp2_with fail
    refine (HM.out _).mono ?_
    rintro e w1 ⟨rfl, hb1⟩
    obtain ⟨c0, c1, hz, hb⟩ := map_block hb1
    clear hb1
    go_wp2_with fail
    go_ret2
    exact ⟨ret_ck (by rw [HY.out]; rfl) HA.out.symm, hb⟩
  · cases hk : inB k 0 15
    · have HA : Hid (askK t p k = false) := Lib.hid (by rw [askK, hk, Bool.and_false])
      have HY : Hid (cfl t p k = 0) := Lib.hid (by rw [cfl, if_neg (by rw [HA.out]; simp)])
      rw [hg] at HM
      rw [hk] at HL
      clear hg hk
      go_enter Tryd.func13, Tryd.ntmps13
      go_wp2_with fail
      refine (HM.out _).mono ?_
      rintro e w1 ⟨rfl, hb1⟩
      obtain ⟨c0, c1, hz, hb⟩ := map_block hb1
      clear hb1
      go_wp2_with (go_at_call 41; refine (HL.out _).mono ?_; rintro e w' ⟨rfl, rfl⟩)
      go_ret2
      exact ⟨ret_ck (by rw [HY.out]; rfl) HA.out.symm, hb⟩
    · have HA : Hid (askK t p k = true) := Lib.hid (by rw [askK, hg, hk]; rfl)
      obtain ⟨k0, k1⟩ : 0 ≤ k ∧ k ≤ 15 := by simpa [inB] using hk
      obtain ⟨K, rfl⟩ : ∃ K : Nat, k = K := ⟨k.toNat, by omega⟩
      have HY : Hid (cfl t p K = (ptL t K (2 ^ K)).length) := Lib.hid (by rw [cfl, if_pos HA.out]; rfl)
      have HF := Lib.hid (fun w h => fallPats_any t p K w hg (by omega) h)
      rw [hg] at HM
      rw [hk] at HL
      clear hg hk
      generalize ptL t K (2 ^ K) = xs at HY HF
      go_enter Tryd.func13, Tryd.ntmps13
      go_wp2_with fail
      refine (HM.out _).mono ?_
      rintro e w1 ⟨rfl, hb1⟩
      obtain ⟨c0, c1, hz, hb⟩ := map_block hb1
      have HTB := Lib.hid (tab_below HT.out hb (Nat.le_refl _))
      clear hb1
      go_wp2_with (go_at_call 41; refine (HL.out _).mono ?_; rintro e w' ⟨rfl, rfl⟩)
      refine (HF.out _ HTB.out).mono ?_
      rintro e w2 ⟨v, rfl, hv, hb2⟩
      obtain ⟨a, cap, rfl⟩ := hv.form
      have HB := Lib.hid (hb.trans (hb2.mono (Nat.le_of_lt hz)))
      clear hb2 hb c0 c1 hv
      go_wp2_with fail
      go_ret2
      exact ⟨ret_ck (by rw [HY.out]) HA.out.symm, HB.out⟩

theorem wy_cast {L j : Nat} (h : j ≤ L) : (wy L j : Int) * ((L : Int) - j) / ((j : Int) + 1) = ((wy L (j + 1) : Nat) : Int) := by
  rw [wy]
  have e : ((L : Int) - j) = ((L - j : Nat) : Int) := by omega
  rw [e, Int.natCast_ediv, Int.natCast_mul]
  rfl
theorem wy_mul {L j : Nat} (hL : L ≤ 15) (h : j ≤ L) : 0 ≤ (wy L j : Int) * ((L : Int) - j) ∧ (wy L j : Int) * ((L : Int) - j) ≤ 96525 := by
  have e : ((L : Int) - j) = ((L - j : Nat) : Int) := by omega
  rw [e, ← Int.natCast_mul]
  have h1 := Nat.mul_le_mul (wy_le hL (i := j) (by omega)) (show L - j ≤ 15 by omega)
  omega

set_option maxRecDepth 100000 in
set_option maxHeartbeats 4000000 in
theorem sCountFalling_yes (t p : Int) (L : Nat) (w : World) (hg : goodB t p = true) (hL : L ≤ 15) :
    Calls Tryd.prog 11 #[.agg #[.int .i64 t, .int .i64 p], .int .i64 (L : Int)] w fun e w' => e = .returned (.tuple #[.int .i64 (sumF (wy L) (fls t L) (L + 1) : Nat), .bool true]) ∧ Below w.heap.size w w' := by
  have HM := Lib.hid (fun w => mpGood_any t p w)
  have HL := Lib.hid (fun w => woLength_any (L : Int) w)
  rw [hg] at HM
  rw [show inB (L : Int) 0 15 = true by simp [inB]; omega] at HL
  have HG := Lib.hid hg
  have hL1 : (L : Int) ≤ 15 := by omega
  clear hg
  go_enter Tryd.func11, Tryd.ntmps11
  go_wp2_with fail
  refine (HM.out _).mono ?_
  rintro e w1 ⟨rfl, hb1⟩
  obtain ⟨c0, c1, hz, hb⟩ := map_block hb1
  clear hb1
  go_wp2_with (go_at_call 38; refine (HL.out _).mono ?_; rintro e w' ⟨rfl, rfl⟩)
  go_loopw [6, 7, 8] (fun c y i wr => ∃ j : Nat, j ≤ L + 1 ∧ i = .int .i64 j ∧ c = .int .i64 (sumF (wy L) (fls t L) j : Nat) ∧ y = .int .i64 (wy L j : Nat) ∧ wr.cell? ⟨w.heap.size, 0, none⟩ = some (.int .i64 t) ∧ wr.cell? ⟨w.heap.size, 1, none⟩ = some (.int .i64 p) ∧ w.heap.size < wr.heap.size ∧ Below w.heap.size w wr) (fun _ _ i _ => L + 2 - (intOf i).toNat)
  case atStart => exact ⟨0, by omega, rfl, rfl, rfl, c0, c1, hz, hb⟩
  case round =>
    clear c0 c1
    obtain ⟨j, hj, rfl, rfl, rfl, c0, c1, hz, hbr⟩ := hrel
    have HBR := Lib.hid hbr
    clear hbr
    by_cases hlt : j ≤ L
    · have hjL : (j : Int) ≤ (L : Int) := by omega
      have hF := Lib.hid (fun w => woFalls_big t p j L w HG.out (by omega) (by omega))
      have hsum := sumF_le hL (fls t L) (k := j) (by omega)
      have hyl := wy_le hL (i := j) (by omega)
      have HYC := Lib.hid (wy_cast hlt)
      have hym := wy_mul hL hlt
      have HSS : Hid (sumF (wy L) (fls t L) (j + 1) = sumF (wy L) (fls t L) j + (if fls t L j = true then wy L j else 0)) := Lib.hid rfl
      have hfl : fls t L j = fl t j L := rfl
      generalize sumF (wy L) (fls t L) j = S at hsum HSS ⊢
      generalize wy L j = y at hyl HYC hym HSS ⊢
      rw [← hfl] at hF
      cases hf : fls t L j
      all_goals
        rw [hf] at hF HSS
        clear hf hfl
        go_wp2_with fail
        refine (hF.out _).mono ?_
        rintro e w2 ⟨rfl, hb2⟩
        have d0 := kept_cell hb2 hz c0
        have d1 := kept_cell hb2 hz c1
        have HB2 := Lib.hid (HBR.out.trans (hb2.mono (Nat.le_of_lt hz)))
        have hz2 := Nat.lt_of_lt_of_le hz hb2.size
        clear hb2 c0 c1
        go_wp2_with fail
        exact ⟨⟨j + 1, by omega, by go_num, by rw [HSS.out]; first | rfl | go_num, by rw [← HYC.out], d0, d1, hz2, HB2.out⟩, by simp [intOf]; omega⟩
    · obtain rfl : j = L + 1 := by omega
      have hjj : ¬ (((L + 1 : Nat) : Int) ≤ (L : Int)) := by omega
      generalize hS : sumF (wy L) (fls t L) (L + 1) = S
      clear c0 c1
      go_wp2_with fail
      go_ret2
      exact ⟨rfl, HBR.out⟩

theorem sCountFalling (t p k : Int) (w : World) :
    Calls Tryd.prog 11 #[.agg #[.int .i64 t, .int .i64 p], .int .i64 k] w fun e w' => e = .returned (.tuple #[.int .i64 (cfl t p k : Nat), .bool (askK t p k)]) ∧ Below w.heap.size w w' := by
  have HM := Lib.hid (fun w => mpGood_any t p w)
  have HL := Lib.hid (fun w => woLength_any k w)
  cases hg : goodB t p
  · have HA : Hid (askK t p k = false) := Lib.hid (by rw [askK, hg]; rfl)
    have HY : Hid (cfl t p k = 0) := Lib.hid (by rw [cfl, if_neg (by rw [HA.out]; simp)])
    rw [hg] at HM
    clear hg
    go_enter Tryd.func11, Tryd.ntmps11
    go_wp2_with fail
    refine (HM.out _).mono ?_
    rintro e w1 ⟨rfl, hb1⟩
    obtain ⟨c0, c1, hz, hb⟩ := map_block hb1
    clear hb1
    go_wp2_with fail
    go_ret2
    exact ⟨ret_ck (by rw [HY.out]; rfl) HA.out.symm, hb⟩
  · cases hk : inB k 0 15
    · have HA : Hid (askK t p k = false) := Lib.hid (by rw [askK, hk, Bool.and_false])
      have HY : Hid (cfl t p k = 0) := Lib.hid (by rw [cfl, if_neg (by rw [HA.out]; simp)])
      rw [hg] at HM
      rw [hk] at HL
      clear hg hk
      go_enter Tryd.func11, Tryd.ntmps11
      go_wp2_with fail
      refine (HM.out _).mono ?_
      rintro e w1 ⟨rfl, hb1⟩
      obtain ⟨c0, c1, hz, hb⟩ := map_block hb1
      clear hb1
      go_wp2_with (go_at_call 38; refine (HL.out _).mono ?_; rintro e w' ⟨rfl, rfl⟩)
      go_ret2
      exact ⟨ret_ck (by rw [HY.out]; rfl) HA.out.symm, hb⟩
    · obtain ⟨k0, k1⟩ : 0 ≤ k ∧ k ≤ 15 := by simpa [inB] using hk
      obtain ⟨K, rfl⟩ : ∃ K : Nat, k = K := ⟨k.toNat, by omega⟩
      have HA : askK t p K = true := by rw [askK, hg, hk]; rfl
      have HY : cfl t p K = sumF (wy K) (fls t K) (K + 1) := by
        rw [cfl, if_pos HA, ← pats_sum (by omega), ptL_length]; rfl
      rw [HY, HA]
      exact sCountFalling_yes t p K w hg (by omega)
end Go.Proofs.YtencblbkbalmcaaDoor
