/-
  'PeakOf' and 'LowOf' of both.
-/
import Derived.Test.YtebbafapcknllaaFar
namespace Go.Proofs.Ytebbafapcknllaa
open Go.RowKit
set_option linter.unusedVariables false

theorem ret_three {x : Int × Int × Bool} {a b : Int} {c : Bool} (h : x = (a, b, c)) : Ending.returned (.tuple #[.int .i64 a, .int .i64 b, .bool c]) = .returned (.tuple #[.int .i64 x.1, .int .i64 x.2.1, .bool x.2.2]) := by rw [h]
/-- The numbers of a way, one after the other. -/
def way (t p n : Int) : Nat → Int := fun j => itr (nx t p) j n
/-- What PeakOf (s) and LowOf come to. -/
def pk (s : Bool) (t p n k : Int) : Int × Int × Bool := if (aft t p (nx t p) n k).2 = true then (best s (way t p n) k.toNat, (far s (way t p n) k.toNat : Int), true) else (0, 0, false)
theorem far_first (s : Bool) (a : Nat → Int) (k j : Nat) (h : j < far s a k) : a j ≠ best s a k := by
  have := (far_best s a k).2 j h
  intro e
  rw [best] at e
  rw [e] at this
  cases s <;> simp [bet] at this

set_option maxRecDepth 100000 in
set_option maxHeartbeats 1000000 in
theorem iPeakOf (t p n k : Int) (w : World) :
    Calls Try.prog 14 #[.agg #[.int .i64 t, .int .i64 p], .int .i64 n, .int .i64 k] w fun e w' => e = .returned (.tuple #[.int .i64 (pk true t p n k).1, .int .i64 (pk true t p n k).2.1, .bool (pk true t p n k).2.2]) ∧ Below w.heap.size w w' := by
  by_cases ha : (aft t p (nx t p) n k).2 = true
  · obtain ⟨K, rfl, hK, hg, hn, hall, hask⟩ := aft_yes ha
    have hf : pk true t p n K = (best true (way t p n) K, (far true (way t p n) K : Int), true) := by rw [pk, if_pos ha]; rfl
    have HF := Lib.hid hf
    have HA := Lib.hid ha
    clear hg hn hask ha hall hf
    go_enter Try.func14, Try.ntmps14
    go_wp2_with fail
    refine (path_yes t p n K _ HA.out).mono ?_
    rintro e w2 ⟨g, cap, rfl, hrow, hb2⟩
    have hbb := ((Below.refl _ w).alloc (Nat.le_refl _) _).trans (hb2.mono (by simp))
    have HC : Hid (∀ j, j ≤ K → w2.cell? ⟨g, j, none⟩ = some (.int .i64 (way t p n j))) := Lib.hid (fun j hj => hrow.cell hj)
    clear hrow hb2
    go_wp2_with fail
    refine (max_any (way t p n) K g cap _ hK HC.out).mono ?_
    rintro e w3 ⟨rfl, rfl⟩
    go_wp2_with fail
    refine (index_any (way t p n) K g cap (far true (way t p n) K) _ _ hK (far_le _ _ _) rfl (fun j hj => far_first _ _ _ j hj) HC.out).mono ?_
    rintro e w3 ⟨rfl, rfl⟩
    go_wp2_with fail
    go_ret3
    exact ⟨ret_three HF.out, hbb⟩
  · have ha' : (aft t p (nx t p) n k).2 = false := by simpa using ha
    have hf : pk true t p n k = (0, 0, false) := by rw [pk, if_neg ha]
    have HF := Lib.hid hf
    have HA := Lib.hid ha'
    clear hf ha ha'
    go_enter Try.func14, Try.ntmps14
    go_wp2_with fail
    refine (path_no t p n k _ HA.out).mono ?_
    rintro e w2 ⟨rfl, hb2⟩
    have hbb := ((Below.refl _ w).alloc (Nat.le_refl _) _).trans (hb2.mono (by simp))
    clear hb2
    go_wp2_with fail
    go_ret3
    exact ⟨ret_three HF.out, hbb⟩

set_option maxRecDepth 100000 in
set_option maxHeartbeats 1000000 in
theorem iLowOf (t p n k : Int) (w : World) :
    Calls Try.prog 16 #[.agg #[.int .i64 t, .int .i64 p], .int .i64 n, .int .i64 k] w fun e w' => e = .returned (.tuple #[.int .i64 (pk false t p n k).1, .int .i64 (pk false t p n k).2.1, .bool (pk false t p n k).2.2]) ∧ Below w.heap.size w w' := by
  by_cases ha : (aft t p (nx t p) n k).2 = true
  · obtain ⟨K, rfl, hK, hg, hn, hall, hask⟩ := aft_yes ha
    have hf : pk false t p n K = (best false (way t p n) K, (far false (way t p n) K : Int), true) := by rw [pk, if_pos ha]; rfl
    have HF := Lib.hid hf
    have HA := Lib.hid ha
    clear hg hn hask ha hall hf
    go_enter Try.func16, Try.ntmps16
    go_wp2_with fail
    refine (path_yes t p n K _ HA.out).mono ?_
    rintro e w2 ⟨g, cap, rfl, hrow, hb2⟩
    have hbb := ((Below.refl _ w).alloc (Nat.le_refl _) _).trans (hb2.mono (by simp))
    have HC : Hid (∀ j, j ≤ K → w2.cell? ⟨g, j, none⟩ = some (.int .i64 (way t p n j))) := Lib.hid (fun j hj => hrow.cell hj)
    clear hrow hb2
    go_wp2_with fail
    refine (min_any (way t p n) K g cap _ hK HC.out).mono ?_
    rintro e w3 ⟨rfl, rfl⟩
    go_wp2_with fail
    refine (index_any (way t p n) K g cap (far false (way t p n) K) _ _ hK (far_le _ _ _) rfl (fun j hj => far_first _ _ _ j hj) HC.out).mono ?_
    rintro e w3 ⟨rfl, rfl⟩
    go_wp2_with fail
    go_ret3
    exact ⟨ret_three HF.out, hbb⟩
  · have ha' : (aft t p (nx t p) n k).2 = false := by simpa using ha
    have hf : pk false t p n k = (0, 0, false) := by rw [pk, if_neg ha]
    have HF := Lib.hid hf
    have HA := Lib.hid ha'
    clear hf ha ha'
    go_enter Try.func16, Try.ntmps16
    go_wp2_with fail
    refine (path_no t p n k _ HA.out).mono ?_
    rintro e w2 ⟨rfl, hb2⟩
    have hbb := ((Below.refl _ w).alloc (Nat.le_refl _) _).trans (hb2.mono (by simp))
    clear hb2
    go_wp2_with fail
    go_ret3
    exact ⟨ret_three HF.out, hbb⟩

set_option maxRecDepth 100000 in
set_option maxHeartbeats 1000000 in
theorem sPeakOf (t p n k : Int) (w : World) :
    Calls Try.prog 15 #[.agg #[.int .i64 t, .int .i64 p], .int .i64 n, .int .i64 k] w fun e w' => e = .returned (.tuple #[.int .i64 (pk true t p n k).1, .int .i64 (pk true t p n k).2.1, .bool (pk true t p n k).2.2]) ∧ Below w.heap.size w w' := by
  by_cases hask : askB t p n k = true
  · obtain ⟨hg, hn, hk0, hk1⟩ := askB_iff.1 hask
    obtain ⟨K, rfl⟩ : ∃ K : Nat, k = K := ⟨k.toNat, by omega⟩
    have hK : K ≤ 1000 := by omega
    have hK2 : (K : Int) ≤ 1000 := by omega
    have h2 : (aft t p (nx t p) n K).2 = allB (nx t p) n (K + 1) := by rw [aft_two, hask]; rfl
    have HG := Lib.hid hg
    have HN := Lib.hid hn
    by_cases hall : allB (nx t p) n (K + 1) = true
    · have hf : pk true t p n K = (best true (way t p n) K, (far true (way t p n) K : Int), true) := by rw [pk, if_pos (by rw [h2, hall])]; rfl
      have HF := Lib.hid hf
      have HALL := Lib.hid hall
      clear hall hf h2 hg hn
      go_enter Try.func15, Try.ntmps15
      go_wp2_with (go_at_call 37; refine (mpAsked_any _ _ _ _ _).mono ?_; rintro e w1 ⟨rfl, hb1⟩; obtain ⟨c0, c1, hz, hb⟩ := map_block hb1; clear hb1)
      refine (mpPath_yes t p n K _ HG.out HN.out hK HALL.out).mono ?_
      rintro e w2 ⟨g, cap, rfl, hrow, hb2⟩
      have hbb := hb.trans (hb2.mono (Nat.le_of_lt hz))
      have HR := Lib.hid hrow
      clear hrow hb2 c0 c1
      go_wp2_with fail
      refine (mpFar_any true (nx t p) n K g cap _ _ hK HR.out).mono ?_
      rintro e w3 ⟨rfl, rfl⟩
      have hfl := far_le true (fun j => itr (nx t p) j n) K
      have q := HR.out.cell hfl
      have hi1 : ((far true (fun j => itr (nx t p) j n) K : Nat) : Int) < (K : Int) + 1 := by omega
      obtain ⟨b, hb'⟩ : ∃ b, b = far true (fun j => itr (nx t p) j n) K := ⟨_, rfl⟩
      rw [← hb'] at q hfl hi1 ⊢
      have HB := Lib.hid hb'
      clear hb'
      go_wp2_with fail
      go_ret3
      refine ⟨ret_three (HF.out.trans ?_), hbb⟩
      rw [HB.out]; rfl
    · have hall' : allB (nx t p) n (K + 1) = false := by simpa using hall
      have hf : pk true t p n K = (0, 0, false) := by rw [pk, h2, hall']; rfl
      have HF := Lib.hid hf
      have HALL := Lib.hid hall'
      clear hf hall hall' h2 hg hn
      go_enter Try.func15, Try.ntmps15
      go_wp2_with (go_at_call 37; refine (mpAsked_any _ _ _ _ _).mono ?_; rintro e w1 ⟨rfl, hb1⟩; obtain ⟨c0, c1, hz, hb⟩ := map_block hb1; clear hb1)
      refine (mpPath_no t p n K _ HG.out HN.out hK HALL.out).mono ?_
      rintro e w2 ⟨rfl, hb2⟩
      have hbb := hb.trans (hb2.mono (Nat.le_of_lt hz))
      clear hb2
      go_wp2_with fail
      go_ret3
      exact ⟨ret_three HF.out, hbb⟩
  · have ha' : askB t p n k = false := by simpa using hask
    have hf : pk true t p n k = (0, 0, false) := by rw [pk, aft_two, ha']; rfl
    have HF := Lib.hid hf
    clear hf hask
    go_enter Try.func15, Try.ntmps15
    go_wp2_with (go_at_call 37; refine (mpAsked_any _ _ _ _ _).mono ?_; rintro e w1 ⟨rfl, hb1⟩; obtain ⟨c0, c1, hz, hb⟩ := map_block hb1; clear hb1)
    go_ret3
    exact ⟨ret_three HF.out, hb⟩

set_option maxRecDepth 100000 in
set_option maxHeartbeats 1000000 in
theorem sLowOf (t p n k : Int) (w : World) :
    Calls Try.prog 17 #[.agg #[.int .i64 t, .int .i64 p], .int .i64 n, .int .i64 k] w fun e w' => e = .returned (.tuple #[.int .i64 (pk false t p n k).1, .int .i64 (pk false t p n k).2.1, .bool (pk false t p n k).2.2]) ∧ Below w.heap.size w w' := by
  by_cases hask : askB t p n k = true
  · obtain ⟨hg, hn, hk0, hk1⟩ := askB_iff.1 hask
    obtain ⟨K, rfl⟩ : ∃ K : Nat, k = K := ⟨k.toNat, by omega⟩
    have hK : K ≤ 1000 := by omega
    have hK2 : (K : Int) ≤ 1000 := by omega
    have h2 : (aft t p (nx t p) n K).2 = allB (nx t p) n (K + 1) := by rw [aft_two, hask]; rfl
    have HG := Lib.hid hg
    have HN := Lib.hid hn
    by_cases hall : allB (nx t p) n (K + 1) = true
    · have hf : pk false t p n K = (best false (way t p n) K, (far false (way t p n) K : Int), true) := by rw [pk, if_pos (by rw [h2, hall])]; rfl
      have HF := Lib.hid hf
      have HALL := Lib.hid hall
      clear hall hf h2 hg hn
      go_enter Try.func17, Try.ntmps17
      go_wp2_with (go_at_call 37; refine (mpAsked_any _ _ _ _ _).mono ?_; rintro e w1 ⟨rfl, hb1⟩; obtain ⟨c0, c1, hz, hb⟩ := map_block hb1; clear hb1)
      refine (mpPath_yes t p n K _ HG.out HN.out hK HALL.out).mono ?_
      rintro e w2 ⟨g, cap, rfl, hrow, hb2⟩
      have hbb := hb.trans (hb2.mono (Nat.le_of_lt hz))
      have HR := Lib.hid hrow
      clear hrow hb2 c0 c1
      go_wp2_with fail
      refine (mpFar_any false (nx t p) n K g cap _ _ hK HR.out).mono ?_
      rintro e w3 ⟨rfl, rfl⟩
      have hfl := far_le false (fun j => itr (nx t p) j n) K
      have q := HR.out.cell hfl
      have hi1 : ((far false (fun j => itr (nx t p) j n) K : Nat) : Int) < (K : Int) + 1 := by omega
      obtain ⟨b, hb'⟩ : ∃ b, b = far false (fun j => itr (nx t p) j n) K := ⟨_, rfl⟩
      rw [← hb'] at q hfl hi1 ⊢
      have HB := Lib.hid hb'
      clear hb'
      go_wp2_with fail
      go_ret3
      refine ⟨ret_three (HF.out.trans ?_), hbb⟩
      rw [HB.out]; rfl
    · have hall' : allB (nx t p) n (K + 1) = false := by simpa using hall
      have hf : pk false t p n K = (0, 0, false) := by rw [pk, h2, hall']; rfl
      have HF := Lib.hid hf
      have HALL := Lib.hid hall'
      clear hf hall hall' h2 hg hn
      go_enter Try.func17, Try.ntmps17
      go_wp2_with (go_at_call 37; refine (mpAsked_any _ _ _ _ _).mono ?_; rintro e w1 ⟨rfl, hb1⟩; obtain ⟨c0, c1, hz, hb⟩ := map_block hb1; clear hb1)
      refine (mpPath_no t p n K _ HG.out HN.out hK HALL.out).mono ?_
      rintro e w2 ⟨rfl, hb2⟩
      have hbb := hb.trans (hb2.mono (Nat.le_of_lt hz))
      clear hb2
      go_wp2_with fail
      go_ret3
      exact ⟨ret_three HF.out, hbb⟩
  · have ha' : askB t p n k = false := by simpa using hask
    have hf : pk false t p n k = (0, 0, false) := by rw [pk, aft_two, ha']; rfl
    have HF := Lib.hid hf
    clear hf hask
    go_enter Try.func17, Try.ntmps17
    go_wp2_with (go_at_call 37; refine (mpAsked_any _ _ _ _ _).mono ?_; rintro e w1 ⟨rfl, hb1⟩; obtain ⟨c0, c1, hz, hb⟩ := map_block hb1; clear hb1)
    go_ret3
    exact ⟨ret_three HF.out, hb⟩

end Go.Proofs.Ytebbafapcknllaa
