/-
  'isBarren' of the program, 'trBarren' of the model.
-/
import Derived.Test.YtbejddpdccddpaaTreeB
import Derived.Test.YtbejddpdccddpaaNumB
namespace Go.Proofs.Ytbejddpdccddpaa
open Go.RowKit
set_option linter.unusedVariables false

theorem dbl_bound {n : Int} (hn : numB n = true) {j : Nat} (hj : j ≤ 6) : -64000000000000 ≤ itr dblF j n ∧ itr dblF j n ≤ 64000000000000 := by
  have := numB_iff.1 hn
  rw [itr_dbl]
  have h : j = 0 ∨ j = 1 ∨ j = 2 ∨ j = 3 ∨ j = 4 ∨ j = 5 ∨ j = 6 := by omega
  rcases h with rfl | rfl | rfl | rfl | rfl | rfl | rfl <;> omega
set_option maxRecDepth 100000 in
set_option maxHeartbeats 2000000 in
theorem isBarren_any (t p n : Int) (w : World) (hg : goodB t p = true) (hn : numB n = true) :
    Calls Try.prog 37 #[.agg #[.int .i64 t, .int .i64 p], .int .i64 n] w fun e w' => e = .returned (.bool (barP t p n)) ∧ Below w.heap.size w w' := by
  have HY := Lib.hid (fun (h : ∀ m, m < 6 → comesP t p (itr dblF (m + 1) n) = false) => barP_yes h)
  have HN := Lib.hid (fun m (hm : m < 6) (h : comesP t p (itr dblF (m + 1) n) = true) => barP_no hm h)
  have HB := Lib.hid (fun (j : Nat) (hj : j ≤ 6) => dbl_bound hn hj)
  have HC := Lib.hid (fun (j : Nat) (hj : j ≤ 6) w => comesFromOdd_any t p (itr dblF j n) w hg (by have := dbl_bound hn hj; omega) (by have := dbl_bound hn hj; omega))
  have HS := Lib.hid (fun j => itr_succ dblF j n)
  have H0 := Lib.hid ((Below.refl _ w).alloc (Nat.le_refl _) (.cells #[.int .i64 t, .int .i64 p] 25))
  generalize barP t p n = r at HY HN ⊢
  clear hg hn
  go_enter Try.func37, Try.ntmps37
  go_wp2_with fail
  go_loopw [1, 5] (fun x i wr => ∃ j : Nat, j ≤ 6 ∧ i = .int .i64 j ∧ x = .int .i64 (itr dblF j n) ∧ (∀ m, m < j → comesP t p (itr dblF (m + 1) n) = false) ∧ wr.cell? ⟨w.heap.size, 0, none⟩ = some (.int .i64 t) ∧ wr.cell? ⟨w.heap.size, 1, none⟩ = some (.int .i64 p) ∧ w.heap.size < wr.heap.size ∧ Below w.heap.size w wr) (fun _ i _ => 6 - (RowKit.intOf i).toNat)
  case atStart => exact ⟨0, by omega, rfl, rfl, by simp, by go_simp, by go_simp, by simp, H0.out⟩
  case round =>
    obtain ⟨j, hj, rfl, rfl, hno, c0, c1, hz, hbel⟩ := hrel
    have HNO := Lib.hid hno
    have HBL := Lib.hid hbel
    clear hno hbel
    by_cases hlt : j < 6
    · have hb1 := HB.out j hj
      have hsucc : itr dblF (j + 1) n = itr dblF j n * 2 := by rw [HS.out, dblF, Int.mul_comm]
      have HSU := Lib.hid hsucc
      have HCJ := Lib.hid (fun w => HC.out (j + 1) hlt w)
      have HNJ := Lib.hid (HN.out j hlt)
      have HYJ := Lib.hid (fun (h : comesP t p (itr dblF (j + 1) n) = false) m (hm : m < j + 1) => (if e : m = j then by rw [e]; exact h else HNO.out m (by omega) : comesP t p (itr dblF (m + 1) n) = false))
      rw [hsucc] at HCJ HNJ HYJ
      obtain ⟨x, hx⟩ : ∃ x, itr dblF j n = x := ⟨_, rfl⟩
      rw [hx] at hb1 HCJ HNJ HYJ HSU ⊢
      clear hsucc hx
      cases hc : comesP t p (x * 2)
      · rw [hc] at HCJ HYJ
        have HYJ2 := Lib.hid (HYJ.out rfl)
        clear hc HYJ HNJ
        go_wp2_with fail
        refine (HCJ.out _).mono ?_
        rintro e w2 ⟨rfl, hb2⟩
        have d0 := kept_cell hb2 hz c0
        have d1 := kept_cell hb2 hz c1
        have hz2 := Nat.lt_of_lt_of_le hz hb2.size
        have HB2 := Lib.hid (HBL.out.trans (hb2.mono (Nat.le_of_lt hz)))
        clear hb2 c0 c1
        go_wp2_with fail
        exact ⟨⟨j + 1, hlt, by go_num, by rw [HSU.out], HYJ2.out, d0, d1, hz2, HB2.out⟩, by simp [RowKit.intOf]; omega⟩
      · obtain rfl : r = false := HNJ.out hc
        rw [hc] at HCJ
        clear hc HYJ HNJ
        go_wp2_with fail
        refine (HCJ.out _).mono ?_
        rintro e w2 ⟨rfl, hb2⟩
        have HB2 := Lib.hid (HBL.out.trans (hb2.mono (Nat.le_of_lt hz)))
        clear hb2 c0 c1
        go_wp2_with fail
        go_ret
        exact ⟨rfl, HB2.out⟩
    · obtain rfl : j = 6 := by omega
      obtain rfl : r = true := HY.out HNO.out
      go_wp2_with fail
      go_ret
      exact ⟨rfl, HBL.out⟩

theorem turn_bound {t n : Int} (ht : 1 ≤ t) (j : Nat) : 0 ≤ itr (turnF t) j (n % (2 * t)) ∧ itr (turnF t) j (n % (2 * t)) < 2 * t := by
  cases j with
  | zero => exact ⟨Int.emod_nonneg _ (by omega), Int.emod_lt_of_pos _ (by omega)⟩
  | succ j => rw [itr_succ, turnF]; exact ⟨Int.emod_nonneg _ (by omega), Int.emod_lt_of_pos _ (by omega)⟩
set_option maxRecDepth 100000 in
set_option maxHeartbeats 4000000 in
theorem trBarren_any (t p n : Int) (w : World) (hg : goodB t p = true) (hn : numB n = true) :
    Calls Try.prog 38 #[.agg #[.int .i64 t, .int .i64 p], .int .i64 n] w fun e w' => e = .returned (.bool (barP t p n)) ∧ Below w.heap.size w w' := by
  rw [bar_eq n hg]
  obtain ⟨g1, g2, _, g4, g5, _⟩ := goodB_iff.1 hg
  have hnb := numB_iff.1 hn
  have HY := Lib.hid (fun (h : ∀ m, m < 2 * t.toNat + 1 → hitS t p (itr (turnF t) m (n % (2 * t))) = false) => barS_yes h)
  have HN := Lib.hid (fun m (hm : m < 2 * t.toNat + 1) (h : hitS t p (itr (turnF t) m (n % (2 * t))) = true) => barS_no hm h)
  have HB := Lib.hid (fun j => turn_bound (n := n) g1 j)
  have HS := Lib.hid (fun j => itr_succ (turnF t) j (n % (2 * t)))
  have HM := Lib.hid (fun x (x1 : -2000000000000000 ≤ x) (x2 : x ≤ 2000000000000000) w => l1Mod_any x (2 * t) w (by omega) (by omega) x1 x2)
  have H0 := Lib.hid ((Below.refl _ w).alloc (Nat.le_refl _) (.cells #[.int .i64 t, .int .i64 p] 25))
  have HMN := Lib.hid (fun w => HM.out n (by omega) (by omega) w)
  have hr0 := turn_bound (n := n) g1 0
  rw [itr] at hr0
  have HR0 : Hid (n % (2 * t) = itr (turnF t) 0 (n % (2 * t))) := Lib.hid rfl
  generalize barS t p n = r at HY HN ⊢
  generalize n % (2 * t) = r0 at *
  obtain ⟨T, hT⟩ : ∃ T : Nat, t = T := ⟨t.toNat, by omega⟩
  have HT : Hid (t.toNat = T) := Lib.hid (by omega)
  rw [HT.out] at HY HN
  have hT2 : (T : Int) = t := hT.symm
  clear hg hn hT
  go_enter Try.func38, Try.ntmps38
  go_wp2_with (go_at_call 60; refine (HMN.out _).mono ?_; rintro e w' ⟨rfl, rfl⟩)
  go_loopw [5, 6] (fun x i wr => ∃ j : Nat, j ≤ 2 * T + 1 ∧ i = .int .i64 j ∧ x = .int .i64 (itr (turnF t) j r0) ∧ (∀ m, m < j → hitS t p (itr (turnF t) m r0) = false) ∧ wr.cell? ⟨w.heap.size, 0, none⟩ = some (.int .i64 t) ∧ wr.cell? ⟨w.heap.size, 1, none⟩ = some (.int .i64 p) ∧ Below w.heap.size w wr) (fun _ i _ => 2 * T + 1 - (RowKit.intOf i).toNat)
  case atStart => exact ⟨0, by omega, rfl, rfl, by simp, by go_simp, by go_simp, H0.out⟩
  case round =>
    obtain ⟨j, hj, rfl, rfl, hno, c0, c1, hbel⟩ := hrel
    have HNO := Lib.hid hno
    have HBL := Lib.hid hbel
    clear hno hbel
    by_cases hlt : j < 2 * T + 1
    · obtain ⟨hb1, hb2⟩ := HB.out j
      have HSU : Hid (itr (turnF t) (j + 1) r0 = (2 * itr (turnF t) j r0).tmod (2 * t)) := Lib.hid (by rw [HS.out, turnF, Int.tmod_eq_emod_of_nonneg (by omega)])
      have HNJ := Lib.hid (HN.out j hlt)
      have HYJ := Lib.hid (fun (h : hitS t p (itr (turnF t) j r0) = false) m (hm : m < j + 1) => (if e : m = j then by rw [e]; exact h else HNO.out m (by omega) : hitS t p (itr (turnF t) m r0) = false))
      have hle : (j : Int) ≤ 2 * t := by omega
      obtain ⟨x, hx⟩ : ∃ x, itr (turnF t) j r0 = x := ⟨_, rfl⟩
      rw [hx] at hb1 hb2 HNJ HYJ HSU ⊢
      have HMX := Lib.hid (fun w => HM.out (x - p - t) (by omega) (by omega) w)
      have HH : Hid (hitS t p x = ((x - p - t) % (2 * t) == 0)) := Lib.hid rfl
      rw [HH.out] at HNJ HYJ
      have hne : ¬ (2 * t = 0) := by omega
      clear hx HM
      generalize (x - p - t) % (2 * t) = y at HMX HNJ HYJ HH
      by_cases hc : y = 0
      · obtain rfl : r = false := HNJ.out (by simp [hc])
        subst hc
        clear HYJ HNJ HH
        go_wp2_with (go_at_call 60; refine (HMX.out _).mono ?_; rintro e w' ⟨rfl, rfl⟩)
        go_ret
        exact ⟨rfl, HBL.out⟩
      · have HYJ2 := Lib.hid (HYJ.out (by simp [hc]))
        clear HYJ HNJ HH
        go_wp2_with (go_at_call 60; refine (HMX.out _).mono ?_; rintro e w' ⟨rfl, rfl⟩)
        exact ⟨⟨j + 1, hlt, by go_num, by rw [HSU.out, Int.tmod_eq_emod_of_nonneg (by omega), Int.mul_emod_mul_of_pos _ _ (by omega)], HYJ2.out, c0, c1, HBL.out⟩, by simp [RowKit.intOf]; omega⟩
    · obtain rfl : j = 2 * T + 1 := by omega
      obtain rfl : r = true := HY.out HNO.out
      have hle : ¬ (((2 * T + 1 : Nat) : Int) ≤ 2 * t) := by omega
      go_wp2_with fail
      go_ret
      exact ⟨rfl, HBL.out⟩
end Go.Proofs.Ytbejddpdccddpaa
