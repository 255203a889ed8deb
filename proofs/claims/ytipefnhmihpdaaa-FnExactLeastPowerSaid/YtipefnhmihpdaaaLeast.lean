/-
  'LeastPower' of both.
-/
import Derived.Test.YtipefnhmihpdaaaLess
import Derived.Test.YtipefnhmihpdaaaPow
namespace Go.Proofs.Ytipefnhmihpdaaa
open Go.RowKit
set_option linter.unusedVariables false

/-- Are there a map and so many odd ones? -/
def askP (t p k : Int) : Bool := goodB t p && inB k 0 20
/-- What LeastPower comes to. -/
def lst (t p k : Int) : Nat := if askP t p k = true then max k.toNat (bl t k.toNat) else 0
theorem ret_lp {x y : Int} {a b : Bool} (h : x = y) (h' : a = b) : Ending.returned (.tuple #[.int .i64 x, .bool a]) = .returned (.tuple #[.int .i64 y, .bool b]) := by rw [h, h']
theorem l1Most_one (k : Nat) (hk : k ≤ 20) (w : World) :
    Calls Try.prog 23 #[.int .i64 1, .int .i64 (k : Int)] w fun e w' => e = .returned (.int .i64 (max 1 k : Nat)) ∧ w = w' := by
  by_cases h : k < 1
  · have e : max 1 k = 1 := by omega
    have h2 : (k : Int) < 1 := by omega
    rw [e]
    go_enter Try.func23, Try.ntmps23
    go_wp2_with fail
    go_ret
    exact ⟨rfl, rfl⟩
  · have e : max 1 k = k := by omega
    have h2 : ¬ ((k : Int) < 1) := by omega
    rw [e]
    go_enter Try.func23, Try.ntmps23
    go_wp2_with fail
    go_ret
    exact ⟨rfl, rfl⟩
theorem bl_pos {t p : Int} (hg : goodB t p = true) {k : Nat} (hk : k ≤ 20) : 1 ≤ bl t k ∧ bl t k ≤ 64 := by
  obtain ⟨h1, h2⟩ := pow_t20 hg hk
  refine ⟨?_, bitLen_64 (by omega)⟩
  rcases Nat.eq_zero_or_pos (bl t k) with h | h
  · have := (bitLen_le_iff (x := (t ^ k).toNat) (k := 0) (by omega)).1 (by unfold bl at h; omega)
    omega
  · exact h

set_option maxHeartbeats 1000000 in
theorem sLeastPower_yes (t p : Int) (K : Nat) (w : World) (hg : goodB t p = true) (hK : K ≤ 20) :
    Calls Try.prog 11 #[.agg #[.int .i64 t, .int .i64 p], .int .i64 (K : Int)] w fun e w' => e = .returned (.tuple #[.int .i64 (max K (bl t K) : Nat), .bool true]) ∧ Below w.heap.size w w' := by
  obtain ⟨g1, g2, g3, g4, g5, g6⟩ := goodB_iff.1 hg
  have HM := Lib.hid (fun w => mpGood_any t p w)
  have HI := Lib.hid (fun w => l1In_any (K : Int) 0 20 w)
  rw [hg] at HM
  rw [show inB (K : Int) 0 20 = true by simp [inB]; omega] at HI
  have HX := Lib.hid (fun w => l1Most_one K hK w)
  obtain ⟨b1, b2⟩ := bl_pos hg hK
  obtain ⟨T, rfl⟩ : ∃ T : Nat, t = T := ⟨t.toNat, by omega⟩
  have HLE : Hid (∀ (l : Nat) w, l ≤ 100 → Calls Try.prog 24 #[.agg #[.int .i64 (T : Int), .int .i64 p], .int .i64 (K : Int), .int .i64 (l : Int)] w fun e w' => e = .returned (.bool (decide (bl T K ≤ l))) ∧ Below w.heap.size w w') := Lib.hid (fun l w hl => by
    have := woLess_any T p K (l : Int) w (by omega) (by omega) hK (by omega) (by omega)
    rw [← bl_nat] at this
    have e : decide ((bl (T : Int) K : Int) ≤ (l : Int)) = decide (bl (T : Int) K ≤ l) := by rw [Bool.eq_iff_iff]; simp
    rw [e] at this
    exact this)
  have hK1 : (K : Int) ≤ 20 := by omega
  obtain ⟨b, hb⟩ : ∃ b, b = bl (T : Int) K := ⟨_, rfl⟩
  rw [← hb] at b1 b2 HLE ⊢
  clear hg g3 g4 g5 g6 hb
  go_enter Try.func11, Try.ntmps11
  go_wp2_with fail
  refine (HM.out _).mono ?_
  rintro e w1 ⟨rfl, hb1⟩
  obtain ⟨c0, c1, hz, hb⟩ := map_block hb1
  clear hb1
  go_wp2_with (go_at_call 22; refine (HI.out _).mono ?_; rintro e w' ⟨rfl, rfl⟩)
  refine (HX.out _).mono ?_
  rintro e w' ⟨rfl, rfl⟩
  go_wp2_with fail
  go_loopw [6] (fun x wr => ∃ l : Nat, x = .int .i64 (l : Int) ∧ max 1 K ≤ l ∧ l ≤ max K b ∧ wr.cell? ⟨w.heap.size, 0, none⟩ = some (.int .i64 (T : Int)) ∧ wr.cell? ⟨w.heap.size, 1, none⟩ = some (.int .i64 p) ∧ w.heap.size < wr.heap.size ∧ Below w.heap.size w wr) (fun x _ => 100 - (intOf x).toNat)
  case atStart => exact ⟨max 1 K, rfl, by omega, by omega, c0, c1, hz, hb⟩
  case round =>
    clear c0 c1 hz hb
    obtain ⟨l, rfl, l1, l2, c0, c1, hz, hbr⟩ := hrel
    have HB := Lib.hid hbr
    have hl : l ≤ 64 := by omega
    have hli : (l : Int) ≤ 64 := by omega
    have H := Lib.hid (fun w => HLE.out l w (by omega))
    have HL1 := Lib.hid l1
    have HL2 := Lib.hid l2
    clear hbr l1 l2
    by_cases hle : b ≤ l
    · rw [decide_eq_true hle] at H
      have HE : Hid (max K b = l) := Lib.hid (by have := HL1.out; have := HL2.out; omega)
      clear hle
      go_wp2_with fail
      refine (H.out _).mono ?_
      rintro e w2 ⟨rfl, hb2⟩
      have HB2 := Lib.hid (HB.out.trans (hb2.mono (Nat.le_of_lt hz)))
      clear hb2 c0 c1
      go_wp2_with fail
      go_ret2
      exact ⟨ret_lp (by rw [HE.out]) rfl, HB2.out⟩
    · rw [decide_eq_false hle] at H
      have HE : Hid (l + 1 ≤ max K b) := Lib.hid (by omega)
      clear hle
      go_wp2_with fail
      refine (H.out _).mono ?_
      rintro e w2 ⟨rfl, hb2⟩
      have d0 := kept_cell hb2 hz c0
      have d1 := kept_cell hb2 hz c1
      have HB2 := Lib.hid (HB.out.trans (hb2.mono (Nat.le_of_lt hz)))
      have hz2 := Nat.lt_of_lt_of_le hz hb2.size
      clear hb2 c0 c1
      go_wp2_with fail
      exact ⟨⟨l + 1, by go_num, by have := HL1.out; omega, HE.out, d0, d1, hz2, HB2.out⟩, by simp [intOf]; omega⟩

theorem lst_no {t p k : Int} (h : askP t p k = false) : lst t p k = 0 := by rw [lst, if_neg (by simp [h])]
theorem sLeastPower (t p k : Int) (w : World) :
    Calls Try.prog 11 #[.agg #[.int .i64 t, .int .i64 p], .int .i64 k] w fun e w' => e = .returned (.tuple #[.int .i64 (lst t p k : Nat), .bool (askP t p k)]) ∧ Below w.heap.size w w' := by
  have HM := Lib.hid (fun w => mpGood_any t p w)
  have HI := Lib.hid (fun w => l1In_any k 0 20 w)
  cases hg : goodB t p
  · have HA : Hid (askP t p k = false) := Lib.hid (by rw [askP, hg]; rfl)
    have HY := Lib.hid (lst_no HA.out)
    rw [hg] at HM
    clear hg
    go_enter Try.func11, Try.ntmps11
    go_wp2_with fail
    refine (HM.out _).mono ?_
    rintro e w1 ⟨rfl, hb1⟩
    obtain ⟨c0, c1, hz, hb⟩ := map_block hb1
    clear hb1
    go_wp2_with fail
    go_ret2
    exact ⟨ret_lp (by rw [HY.out]; rfl) HA.out.symm, hb⟩
  · cases hk : inB k 0 20
    · have HA : Hid (askP t p k = false) := Lib.hid (by rw [askP, hk, Bool.and_false])
      have HY := Lib.hid (lst_no HA.out)
      rw [hg] at HM
      rw [hk] at HI
      clear hg hk
      go_enter Try.func11, Try.ntmps11
      go_wp2_with fail
      refine (HM.out _).mono ?_
      rintro e w1 ⟨rfl, hb1⟩
      obtain ⟨c0, c1, hz, hb⟩ := map_block hb1
      clear hb1
      go_wp2_with (go_at_call 22; refine (HI.out _).mono ?_; rintro e w' ⟨rfl, rfl⟩)
      go_ret2
      exact ⟨ret_lp (by rw [HY.out]; rfl) HA.out.symm, hb⟩
    · obtain ⟨k0, k1⟩ : 0 ≤ k ∧ k ≤ 20 := by simpa [inB] using hk
      obtain ⟨K, rfl⟩ : ∃ K : Nat, k = K := ⟨k.toNat, by omega⟩
      have HA : askP t p K = true := by rw [askP, hg, hk]; rfl
      rw [show lst t p K = max K (bl t K) by rw [lst, if_pos HA]; rfl, HA]
      exact sLeastPower_yes t p K w hg (by omega)

set_option maxHeartbeats 1000000 in
theorem iLeastPower (t p k : Int) (w : World) :
    Calls Try.prog 12 #[.agg #[.int .i64 t, .int .i64 p], .int .i64 k] w fun e w' => e = .returned (.tuple #[.int .i64 (lst t p k : Nat), .bool (askP t p k)]) ∧ Below w.heap.size w w' := by
  have HM := Lib.hid (fun w => isMap_any t p w)
  cases hg : goodB t p
  · have HA : Hid (askP t p k = false) := Lib.hid (by rw [askP, hg]; rfl)
    have HY := Lib.hid (lst_no HA.out)
    rw [hg] at HM
    clear hg
    go_enter Try.func12, Try.ntmps12
    go_wp2_with fail
    refine (HM.out _).mono ?_
    rintro e w1 ⟨rfl, hb1⟩
    obtain ⟨c0, c1, hz, hb⟩ := map_block hb1
    clear hb1
    go_wp2_with fail
    go_ret2
    exact ⟨ret_lp (by rw [HY.out]; rfl) HA.out.symm, hb⟩
  · by_cases hk : 0 ≤ k ∧ k ≤ 20
    · obtain ⟨k0, k1⟩ := hk
      obtain ⟨K, rfl⟩ : ∃ K : Nat, k = K := ⟨k.toNat, by omega⟩
      have hd0 : decide ((K : Int) < 0) = false := by simp
      have hd1 : decide (20 < (K : Int)) = false := by simp; omega
      have HA : Hid (askP t p K = true) := Lib.hid (by rw [askP, hg]; simp [inB]; omega)
      have HY : Hid (lst t p K = max K (bl t K)) := Lib.hid (by rw [lst, if_pos HA.out]; rfl)
      have HP := Lib.hid (fun w => powerAbove_any t p K w hg (by omega))
      obtain ⟨b1, b2⟩ := bl_pos hg (k := K) (by omega)
      rw [hg] at HM
      clear hg
      generalize bl t K = b at HY HP b1 b2
      go_enter Try.func12, Try.ntmps12
      go_wp2_with fail
      refine (HM.out _).mono ?_
      rintro e w1 ⟨rfl, hb1⟩
      obtain ⟨c0, c1, hz, hb⟩ := map_block hb1
      clear hb1
      go_wp2_with fail
      refine (HP.out _).mono ?_
      rintro e w2 ⟨rfl, hb2⟩
      have HB := Lib.hid (hb.trans (hb2.mono (Nat.le_of_lt hz)))
      clear hb2 hb c0 c1
      go_wp2_with fail
      go_ret2
      exact ⟨ret_lp (by rw [HY.out]; omega) HA.out.symm, HB.out⟩
    · have HA : Hid (askP t p k = false) := Lib.hid (by rw [askP, hg]; simp [inB]; omega)
      have HY := Lib.hid (lst_no HA.out)
      rw [hg] at HM
      clear hg
      by_cases k0 : 0 ≤ k
      · have hd0 : decide (k < 0) = false := by simpa using k0
        have hd1 : decide (20 < k) = true := by simp; omega
        clear hk k0
        go_enter Try.func12, Try.ntmps12
        go_wp2_with fail
        refine (HM.out _).mono ?_
        rintro e w1 ⟨rfl, hb1⟩
        obtain ⟨c0, c1, hz, hb⟩ := map_block hb1
        clear hb1
        go_wp2_with fail
        go_ret2
        exact ⟨ret_lp (by rw [HY.out]; rfl) HA.out.symm, hb⟩
      · have hd0 : decide (k < 0) = true := by simpa using k0
        clear hk k0
        go_enter Try.func12, Try.ntmps12
        go_wp2_with fail
        refine (HM.out _).mono ?_
        rintro e w1 ⟨rfl, hb1⟩
        obtain ⟨c0, c1, hz, hb⟩ := map_block hb1
        clear hb1
        go_wp2_with fail
        go_ret2
        exact ⟨ret_lp (by rw [HY.out]; rfl) HA.out.symm, hb⟩
end Go.Proofs.Ytipefnhmihpdaaa
