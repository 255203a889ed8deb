/-
  'rsNext' of the model.
-/
import Derived.Test.YtpfclanblcngfaaRb
namespace Go.Proofs.Ytpfclanblcngfaa
open Go.RowKit
set_option linter.unusedVariables false

/-- Where the loop stands. -/
def RnAt (t p M r y : Int) (ys : List Int) : Prop := (y = r ∧ ys = []) ∨ (y = r + M ∧ ys = [nb t p M r 0]) ∨ (y = r + M + M ∧ ys = nbL t p M r)

set_option maxRecDepth 100000 in
set_option maxHeartbeats 4000000 in
theorem rsNext_any (t p M r : Int) (w : World) (hg : goodB t p = true) (hM1 : 1 ≤ M) (hM2 : M ≤ 60) (hr0 : 0 ≤ r) (hr1 : r < M) :
    Calls Try.prog 21 #[.agg #[.int .i64 t, .int .i64 p], .int .i64 M, .int .i64 r] w fun e w' => ∃ v, e = .returned v ∧ UpAt w' w.heap.size v (nbL t p M r) ∧ Below w.heap.size w w' := by
  have HG := Lib.hid hg
  have HE0 : Hid (nx t p r % M = nb t p M r 0) := Lib.hid (by rw [nb]; simp)
  have HE1 : Hid (nx t p (r + M) % M = nb t p M r 1) := Lib.hid (by rw [nb, Int.one_mul])
  have HL1 : Hid (nb t p M r 1 = nb t p M r 0 → nbL t p M r = [nb t p M r 0]) := Lib.hid (fun h => nbL_eq h)
  have HL2 : Hid (nb t p M r 1 ≠ nb t p M r 0 → nbL t p M r = putI (nb t p M r 1) [nb t p M r 0]) := Lib.hid (fun h => by rw [nbL, if_neg h])
  have HBD : Hid (∀ y, 0 ≤ y → y ≤ 120 → -2000 ≤ nx t p y ∧ nx t p y ≤ 2000) := Lib.hid (fun y h0 h1 => nx_small hg h0 h1)
  have HNX : Hid (∀ y, 0 ≤ y → y ≤ 120 → ∀ w, Calls Try.prog 39 #[.agg #[.int .i64 t, .int .i64 p], .int .i64 y] w fun e w' => e = .returned (.int .i64 (nx t p y)) ∧ Below w.heap.size w w') := Lib.hid (fun y h0 h1 w => mpNext_any t p y w hg (num_small h0 h1))
  clear hg
  go_enter Try.func21, Try.ntmps21
  go_wp2_with fail
  go_loopw [7, 8, 9] (fun v x _ wr => ∃ y ys, RnAt t p M r y ys ∧ x = .int .i64 y ∧ UpAt wr (w.heap.size + 1) v ys ∧ wr.cell? ⟨w.heap.size, 0, none⟩ = some (.int .i64 t) ∧ wr.cell? ⟨w.heap.size, 1, none⟩ = some (.int .i64 p) ∧ w.heap.size < wr.heap.size ∧ Below w.heap.size w wr) (fun _ x _ _ => (200 - RowKit.intOf x).toNat)
  case atStart => exact ⟨r, [], .inl ⟨rfl, rfl⟩, rfl, .inl ⟨rfl, rfl⟩, by go_simp, by go_simp, by simp, (Below.refl _ _).alloc (Nat.le_refl _) _⟩
  case round =>
    obtain ⟨y, ys, hat, rfl, hup, c0, c1, hz, hb⟩ := hrel
    have HUP := Lib.hid hup
    have HB := Lib.hid hb
    clear hup hb
    rcases hat with ⟨hy, hys⟩ | ⟨hy, hys⟩ | ⟨hy, hys⟩
    · have hlt : y < 2 * M := by omega
      have y0 : 0 ≤ y := by omega
      have y1 : y ≤ 120 := by omega
      have HNY := Lib.hid (fun w => HNX.out y y0 y1 w)
      obtain ⟨b0, b1⟩ := HBD.out y y0 y1
      have HEY : Hid (nx t p y % M = nb t p M r 0) := Lib.hid (by rw [hy]; exact HE0.out)
      have HYR := Lib.hid hy
      rw [hys] at HUP
      obtain ⟨u, hu⟩ : ∃ u, nx t p y = u := ⟨_, rfl⟩
      rw [hu] at HNY HEY b0 b1
      have HMD := Lib.hid (fun w => l1Mod_any u M w (by omega) (by omega) (by omega) (by omega))
      rw [HEY.out] at HMD
      clear hy hys hu
      obtain ⟨z, hzz⟩ : ∃ z, nb t p M r 0 = z := ⟨_, rfl⟩
      rw [hzz] at HMD
      have HZ := Lib.hid hzz
      have HIN : Hid (decide (z ∈ ([] : List Int)) = false) := Lib.hid (by simp)
      have HNI : Hid (z ∉ ([] : List Int)) := Lib.hid (by simp)
      clear hzz
      go_wp2_with fail
      refine (HNY.out _).mono ?_
      rintro e w2 ⟨rfl, hb2⟩
      have d0 := kept_cell hb2 hz c0
      have d1 := kept_cell hb2 hz c1
      have HB2 := Lib.hid (HB.out.trans (hb2.mono (Nat.le_of_lt hz)))
      have hz2 := Nat.lt_of_lt_of_le hz hb2.size
      have HU2 := Lib.hid (HUP.out.kept hb2)
      have HHAS := Lib.hid (l1Has_up z HU2.out (by simp))
      rw [HIN.out] at HHAS
      clear hb2 c0 c1 HUP HB
      go_wp2_with (first | (go_at_call 38; refine (HMD.out _).mono ?_; rintro e w' ⟨rfl, rfl⟩) | (go_at_call 35; refine HHAS.out.mono ?_; rintro e w' ⟨rfl, rfl⟩))
      refine (l1Put_up z HU2.out (by simp) HNI.out).mono ?_
      rintro e w4 ⟨v4, rfl, hi4, hb4⟩
      have f0 := kept_cell hb4 hz2 d0
      have f1 := kept_cell hb4 hz2 d1
      have HB4 := Lib.hid (HB2.out.trans (hb4.mono (Nat.le_of_lt hz2)))
      have hz4 := Nat.lt_of_lt_of_le hz2 hb4.size
      have HI4 := Lib.hid hi4
      have hw24 : w.heap.size + 1 ≤ w2.heap.size := hz2
      clear hb4 hi4 d0 d1
      go_wp2_with fail
      exact ⟨⟨y + M, [nb t p M r 0], .inr (.inl ⟨by rw [HYR.out], rfl⟩), rfl, .inr ⟨by simp, by rw [HZ.out]; exact ownsRow_base HI4.out hw24⟩, f0, f1, hz4, HB4.out⟩, by simp [RowKit.intOf]; omega⟩
      
    · have hlt : y < 2 * M := by omega
      have y0 : 0 ≤ y := by omega
      have y1 : y ≤ 120 := by omega
      have HNY := Lib.hid (fun w => HNX.out y y0 y1 w)
      obtain ⟨b0, b1⟩ := HBD.out y y0 y1
      have HEY : Hid (nx t p y % M = nb t p M r 1) := Lib.hid (by rw [hy]; exact HE1.out)
      have HYR := Lib.hid hy
      rw [hys] at HUP
      obtain ⟨u, hu⟩ : ∃ u, nx t p y = u := ⟨_, rfl⟩
      rw [hu] at HNY HEY b0 b1
      have HMD := Lib.hid (fun w => l1Mod_any u M w (by omega) (by omega) (by omega) (by omega))
      rw [HEY.out] at HMD
      clear hy hys hu
      obtain ⟨z, hzz⟩ : ∃ z, nb t p M r 1 = z := ⟨_, rfl⟩
      rw [hzz] at HMD
      have HZ := Lib.hid hzz
      by_cases hin : z = nb t p M r 0
      · have HIN : Hid (decide (z ∈ [nb t p M r 0]) = true) := Lib.hid (by simp [hin])
        have HLL : Hid (nbL t p M r = [nb t p M r 0]) := Lib.hid (HL1.out (by rw [hzz, hin]))
        clear hzz hin
        go_wp2_with fail
        refine (HNY.out _).mono ?_
        rintro e w2 ⟨rfl, hb2⟩
        have d0 := kept_cell hb2 hz c0
        have d1 := kept_cell hb2 hz c1
        have HB2 := Lib.hid (HB.out.trans (hb2.mono (Nat.le_of_lt hz)))
        have hz2 := Nat.lt_of_lt_of_le hz hb2.size
        have HU2 := Lib.hid (HUP.out.kept hb2)
        have HHAS := Lib.hid (l1Has_up z HU2.out (by simp))
        rw [HIN.out] at HHAS
        clear hb2 c0 c1 HUP HB
        go_wp2_with (first | (go_at_call 38; refine (HMD.out _).mono ?_; rintro e w' ⟨rfl, rfl⟩) | (go_at_call 35; refine HHAS.out.mono ?_; rintro e w' ⟨rfl, rfl⟩))
        exact ⟨⟨y + M, nbL t p M r, .inr (.inr ⟨by rw [HYR.out], rfl⟩), rfl, by rw [HLL.out]; exact HU2.out, d0, d1, hz2, HB2.out⟩, by simp [RowKit.intOf]; omega⟩
      · have HIN : Hid (decide (z ∈ [nb t p M r 0]) = false) := Lib.hid (by simp [hin])
        have HNI : Hid (z ∉ [nb t p M r 0]) := Lib.hid (by simp [hin])
        have HLL : Hid (nbL t p M r = putI z [nb t p M r 0]) := Lib.hid (by rw [HL2.out (by rw [hzz]; exact hin), hzz])
        clear hzz hin
        go_wp2_with fail
        refine (HNY.out _).mono ?_
        rintro e w2 ⟨rfl, hb2⟩
        have d0 := kept_cell hb2 hz c0
        have d1 := kept_cell hb2 hz c1
        have HB2 := Lib.hid (HB.out.trans (hb2.mono (Nat.le_of_lt hz)))
        have hz2 := Nat.lt_of_lt_of_le hz hb2.size
        have HU2 := Lib.hid (HUP.out.kept hb2)
        have HHAS := Lib.hid (l1Has_up z HU2.out (by simp))
        rw [HIN.out] at HHAS
        clear hb2 c0 c1 HUP HB
        go_wp2_with (first | (go_at_call 38; refine (HMD.out _).mono ?_; rintro e w' ⟨rfl, rfl⟩) | (go_at_call 35; refine HHAS.out.mono ?_; rintro e w' ⟨rfl, rfl⟩))
        refine (l1Put_up z HU2.out (by simp) HNI.out).mono ?_
        rintro e w4 ⟨v4, rfl, hi4, hb4⟩
        have f0 := kept_cell hb4 hz2 d0
        have f1 := kept_cell hb4 hz2 d1
        have HB4 := Lib.hid (HB2.out.trans (hb4.mono (Nat.le_of_lt hz2)))
        have hz4 := Nat.lt_of_lt_of_le hz2 hb4.size
        have HI4 := Lib.hid hi4
        have hw24 : w.heap.size + 1 ≤ w2.heap.size := hz2
        clear hb4 hi4 d0 d1
        go_wp2_with fail
        exact ⟨⟨y + M, nbL t p M r, .inr (.inr ⟨by rw [HYR.out], rfl⟩), rfl, .inr ⟨by rw [HLL.out]; exact putI_ne _ _, by rw [HLL.out]; exact ownsRow_base HI4.out hw24⟩, f0, f1, hz4, HB4.out⟩, by simp [RowKit.intOf]; omega⟩
      
    · have hlt : ¬ (y < 2 * M) := by omega
      rw [hys] at HUP
      have y1 : y ≤ 180 := by omega
      have y0 : 0 ≤ y := by omega
      have hsz := hz
      clear hy hys
      go_wp2_with fail
      go_ret
      refine ⟨_, rfl, ?_, HB.out⟩
      rcases HUP.out with h | ⟨h1, h2⟩
      · exact .inl h
      · exact .inr ⟨h1, ownsRow_base h2 (by omega)⟩
end Go.Proofs.Ytpfclanblcngfaa
