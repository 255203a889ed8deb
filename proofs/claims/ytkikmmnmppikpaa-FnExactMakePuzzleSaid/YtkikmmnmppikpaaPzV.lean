/-
  WHAT A CLUE TELLS OF A NUMBER: 'pzValue' and 'pzFits' of the model.
-/
import Derived.Test.YtkikmmnmppikpaaPzM
import Derived.Test.YtkikmmnmppikpaaCl
namespace Go.Proofs.Ytkikmmnmppikpaa
open Go.RowKit
set_option linter.unusedVariables false

theorem l1Abs_any2 (n : Int) (w : World) (n1 : -1000000000000 ≤ n) (n2 : n ≤ 1000000000000) :
    Calls Try.prog 90 #[.int .i64 n] w fun e w' => e = .returned (.int .i64 (absI n)) ∧ w = w' := by
  unfold absI
  by_cases h : -n < n
  · rw [if_pos h]
    go_enter Try.func90, Try.ntmps90
    go_wp2
    go_ret
    exact ⟨rfl, rfl⟩
  · rw [if_neg h]
    go_enter Try.func90, Try.ntmps90
    go_wp2
    go_ret
    exact ⟨rfl, rfl⟩

theorem absI_rng {n : Int} (h : numB n = true) : 0 ≤ absI n ∧ absI n ≤ 1000000000000 := by
  have := numB_iff.1 h
  unfold absI
  split <;> omega
theorem tmod10 {x : Int} (h : 0 ≤ x) : x.tmod 10 = x % 10 := Int.tmod_eq_emod_of_nonneg h
theorem aft_num {t p n k : Int} : numB (aft t p (nx t p) n k).1 = true := by
  unfold aft
  split
  · rename_i h
    exact allB_at (by omega) h.2
  · rfl
/-- What is asked of a clue's value: the clue's A, the number. -/
theorem vlP_zero (t p a n : Int) : vlP t p 0 a n = (n % a, true) := by simp [vlP]
theorem vlP_one (t p a n : Int) : vlP t p 1 a n = aft t p (nx t p) n a := by simp [vlP]
theorem vlP_two (t p a n : Int) : vlP t p 2 a n = (((odd t p n a : Nat) : Int), (aft t p (nx t p) n a).2) := by simp [vlP]
theorem vlP_three (t p a n : Int) : vlP t p 3 a n = ((pk true t p n a).1, (pk true t p n a).2.2) := by simp [vlP]
theorem vlP_four (t p a n : Int) : vlP t p 4 a n = (absI (aft t p (nx t p) n a).1 % 10, (aft t p (nx t p) n a).2) := by simp [vlP]
theorem vlP_no {t p k a n : Int} (hk : k ≠ 0) (h : (aft t p (nx t p) n a).2 = false) (hk0 : 0 ≤ k) (hk4 : k ≤ 4) : vlP t p k a n = (0, false) := by
  have ha : aft t p (nx t p) n a = (0, false) := by
    unfold aft at *
    by_cases hh : askB t p n a = true ∧ allB (nx t p) n (a.toNat + 1) = true
    · rw [if_pos hh] at h; cases h
    · rw [if_neg hh]
  have hp : pk true t p n a = (0, 0, false) := by unfold pk; rw [ha]; rfl
  have ho : odd t p n a = 0 := by unfold odd; rw [ha]; rfl
  have : k = 1 ∨ k = 2 ∨ k = 3 ∨ k = 4 := by omega
  rcases this with rfl | rfl | rfl | rfl
  · rw [vlP_one, ha]
  · rw [vlP_two, ha, ho]; rfl
  · rw [vlP_three, hp]
  · rw [vlP_four, ha]; rfl

theorem ret_two {x : Int × Bool} {a : Int} {b : Bool} (h : x = (a, b)) : Ending.returned (.tuple #[.int .i64 a, .bool b]) = .returned (.tuple #[.int .i64 x.1, .bool x.2]) := by rw [h]

set_option maxRecDepth 100000 in
set_option maxHeartbeats 2000000 in
theorem pzValue_any (t p k a n : Int) (w : World) (hg : goodB t p = true) (hn : numB n = true) (hn0 : 0 ≤ n) (hk0 : 0 ≤ k) (hk4 : k ≤ 4) (ha0 : 0 ≤ a) (ha1 : a ≤ 20) (ha2 : k = 0 → 2 ≤ a) :
    Calls Try.prog 65 #[.agg #[.int .i64 t, .int .i64 p], .int .i64 k, .int .i64 a, .int .i64 n] w fun e w' => e = .returned (.tuple #[.int .i64 (vlP t p k a n).1, .bool (vlP t p k a n).2]) ∧ Below w.heap.size w w' := by
  have hkk : k = 0 ∨ k = 1 ∨ k = 2 ∨ k = 3 ∨ k = 4 := by omega
  by_cases hz : k = 0
  · subst hz
    have h2 := ha2 rfl
    have hd : ¬ (a = 0) := by omega
    have HF := Lib.hid (vlP_zero t p a n)
    have ht : n.tmod a = n % a := Int.tmod_eq_emod_of_nonneg hn0
    have h3 : 0 ≤ n % a := Int.emod_nonneg _ hd
    have h4 : n % a < a := Int.emod_lt_of_pos _ (by omega)
    have HT := Lib.hid ht
    have hb := Lib.hid ((Below.refl w.heap.size w).alloc (Nat.le_refl _) (.cells #[.int .i64 t, .int .i64 p] 23))
    clear hkk ha2 hg hn
    go_enter Try.func65, Try.ntmps65
    go_wp2_with fail
    go_ret2
    exact ⟨ret_two HF.out, by first | exact Below.refl _ _ | exact hb.out⟩
  obtain ⟨K, rfl⟩ : ∃ K : Nat, a = K := ⟨a.toNat, by omega⟩
  have hK : K ≤ 20 := by omega
  have hask : askB t p n K = true := askB_iff.2 ⟨hg, hn, by omega, by omega⟩
  have h2 : (aft t p (nx t p) n K).2 = allB (nx t p) n (K + 1) := by rw [aft_two, hask]; rfl
  have HG := Lib.hid hg
  have HN := Lib.hid hn
  by_cases hall : allB (nx t p) n (K + 1) = true
  case neg =>
    have hall' : allB (nx t p) n (K + 1) = false := by simpa using hall
    have HF := Lib.hid (vlP_no (t := t) (p := p) hz (h2.trans hall') hk0 hk4)
    have HP := Lib.hid (fun W => mpPath_no t p n K W hg hn (by omega) hall')
    clear hkk ha2 hg hn hall hall' h2 hask ha0 ha1 hK
    go_enter Try.func65, Try.ntmps65
    go_wp2_with fail
    refine (HP.out _).mono ?_
    rintro e w2 ⟨rfl, hb2⟩
    have HB := Lib.hid hb2
    clear hb2
    go_wp2_with fail
    go_ret2
    exact ⟨ret_two HF.out, by first | exact HB.out | exact ((Below.refl w.heap.size w).alloc (Nat.le_refl _) _).trans (HB.out.mono (by simp))⟩
  case pos =>
    have haft : aft t p (nx t p) n K = (itr (nx t p) K n, true) := by unfold aft; rw [if_pos ⟨hask, hall⟩]; rfl
    have HP := Lib.hid (fun W => mpPath_yes t p n K W hg hn (by omega) hall)
    have hnum : numB (itr (nx t p) K n) = true := allB_at (Nat.lt_succ_self K) hall
    have HNUM := Lib.hid hnum
    have HFP : Hid (pk true t p n K = (best true (way t p n) K, (far true (way t p n) K : Int), true)) := Lib.hid (by rw [pk, if_pos (by rw [h2, hall])]; rfl)
    have HFO : Hid (odd t p n K = ods (nx t p) n K) := Lib.hid (by rw [odd, if_pos (by rw [h2, hall])]; rfl)
    have HA := Lib.hid haft
    have H1 := Lib.hid (vlP_one t p K n)
    have H2 := Lib.hid (vlP_two t p K n)
    have H3 := Lib.hid (vlP_three t p K n)
    have H4 := Lib.hid (vlP_four t p K n)
    clear ha2 hg hn hall h2 hask haft hnum ha0 ha1
    have hkk2 : k = 1 ∨ k = 2 ∨ k = 3 ∨ k = 4 := by omega
    clear hkk
    rcases hkk2 with rfl | rfl | rfl | rfl
    · clear H2 H3 H4 hz hk0 hk4
      go_enter Try.func65, Try.ntmps65
      go_wp2_with fail
      refine (HP.out _).mono ?_
      rintro e w2 ⟨g, cap, rfl, hrow, hb2⟩
      have HB := Lib.hid hb2
      have q := hrow.cell (Nat.le_refl K)
      have hi1 : (K : Int) < (K : Int) + 1 := by omega
      clear hb2 hrow
      obtain ⟨v, hv⟩ : ∃ v, v = itr (nx t p) K n := ⟨_, rfl⟩
      rw [← hv] at q
      have HV := Lib.hid hv
      clear hv
      go_wp2_with fail
      go_ret2
      exact ⟨ret_two (by rw [H1.out, HA.out, HV.out]), by first | exact HB.out | exact ((Below.refl w.heap.size w).alloc (Nat.le_refl _) _).trans (HB.out.mono (by simp))⟩
    · clear H1 H3 H4 hz hk0 hk4
      go_enter Try.func65, Try.ntmps65
      go_wp2_with fail
      refine (HP.out _).mono ?_
      rintro e w2 ⟨g, cap, rfl, hrow, hb2⟩
      have HB := Lib.hid hb2
      have HR := Lib.hid hrow
      have hcap := hrow.cap.1
      have hcap2 := hrow.cap.2
      have hi0 : (K : Int) ≤ (cap : Int) := by omega
      have hi3 : (cap : Int) ≤ 9223372036854775807 := by unfold maxLen at hcap2; omega
      have hi4 : K ≤ cap := by omega
      have hK2 : (K : Int) ≤ 20 := by omega
      clear hrow hb2 hcap2
      go_wp2_with fail
      go_loop [12, 42] (fun o i => ∃ j : Nat, j ≤ K ∧ i = .int .i64 j ∧ o = .int .i64 (ods (nx t p) n j : Nat)) (fun _ i => K + 1 - (intOf i).toNat)
      case atStart => exact ⟨0, by omega, rfl, rfl⟩
      case round =>
        obtain ⟨j, hj, rfl, rfl⟩ := hrel
        by_cases hlt : j < K
        · have q := HR.out.cell (j := j) (by omega)
          have hi1 : (j : Int) < (K : Int) := by omega
          have hle := ods_le (nx t p) n j
          have hle2 : ((ods (nx t p) n j : Nat) : Int) ≤ 1000 := by omega
          have hsn : ods (nx t p) n (j + 1) = ods (nx t p) n j + if oddB (itr (nx t p) j n) = true then 1 else 0 := rfl
          obtain ⟨v, hv⟩ : ∃ v, v = itr (nx t p) j n := ⟨_, rfl⟩
          rw [← hv] at q hsn
          obtain ⟨l, hl⟩ : ∃ l, l = ods (nx t p) n j := ⟨_, rfl⟩
          rw [← hl] at hle hle2 hsn ⊢
          by_cases ho : oddB v = true
          · rw [if_pos ho] at hsn
            have ht : (v.tmod 2 != 0) = true := by rw [oddB_tmod, ho]
            have HSN := Lib.hid hsn
            clear hsn ho hv hl hle
            go_wp2
            exact ⟨⟨j + 1, hlt, by go_num, by rw [HSN.out]; go_num⟩, by simp [intOf]; omega⟩
          · rw [if_neg ho] at hsn
            have ho' : oddB v = false := by simpa using ho
            have ht : (v.tmod 2 != 0) = false := by rw [oddB_tmod, ho']
            have HSN := Lib.hid hsn
            clear hsn ho ho' hv hl hle
            go_wp2
            exact ⟨⟨j + 1, hlt, by go_num, by rw [HSN.out]; rfl⟩, by simp [intOf]; omega⟩
        · obtain rfl : j = K := by omega
          have hi1 : ¬ ((j : Int) < (j : Int)) := by omega
          go_wp2
          go_ret2
          exact ⟨ret_two (by rw [H2.out, HA.out, HFO.out]), by first | exact HB.out | exact ((Below.refl w.heap.size w).alloc (Nat.le_refl _) _).trans (HB.out.mono (by simp))⟩
    · clear H1 H2 H4 hz hk0 hk4
      go_enter Try.func65, Try.ntmps65
      go_wp2_with fail
      refine (HP.out _).mono ?_
      rintro e w2 ⟨g, cap, rfl, hrow, hb2⟩
      have HB := Lib.hid hb2
      have HR := Lib.hid hrow
      clear hrow hb2
      go_wp2_with fail
      refine (mpFar_any true (nx t p) n K g cap _ _ (by omega) HR.out).mono ?_
      rintro e w3 ⟨rfl, rfl⟩
      have hfl := far_le true (fun j => itr (nx t p) j n) K
      have q := HR.out.cell hfl
      have hi1 : ((far true (fun j => itr (nx t p) j n) K : Nat) : Int) < (K : Int) + 1 := by omega
      obtain ⟨b, hb'⟩ : ∃ b, b = far true (fun j => itr (nx t p) j n) K := ⟨_, rfl⟩
      rw [← hb'] at q hfl hi1 ⊢
      have HBB := Lib.hid hb'
      clear hb'
      go_wp2_with fail
      go_ret2
      refine ⟨ret_two ?_, by first | exact HB.out | exact ((Below.refl w.heap.size w).alloc (Nat.le_refl _) _).trans (HB.out.mono (by simp))⟩
      rw [H3.out, HFP.out, HBB.out]
      rfl
    · clear H1 H2 H3 hz hk0 hk4
      go_enter Try.func65, Try.ntmps65
      go_wp2_with fail
      refine (HP.out _).mono ?_
      rintro e w2 ⟨g, cap, rfl, hrow, hb2⟩
      have HB := Lib.hid hb2
      have q := hrow.cell (Nat.le_refl K)
      have hi1 : (K : Int) < (K : Int) + 1 := by omega
      clear hb2 hrow
      obtain ⟨v, hv⟩ : ∃ v, v = itr (nx t p) K n := ⟨_, rfl⟩
      rw [← hv] at q HNUM
      have HV := Lib.hid hv
      have hvv := numB_iff.1 HNUM.out
      obtain ⟨v1, v2⟩ := hvv
      have HAB := Lib.hid (fun W => l1Abs_any2 v W v1 v2)
      obtain ⟨ar0, ar1⟩ := absI_rng HNUM.out
      have htm := Lib.hid (tmod10 ar0)
      have HVA : Hid (absI v = absI (itr (nx t p) K n)) := Lib.hid (by rw [hv])
      clear hv v1 v2
      obtain ⟨x, hx⟩ : ∃ x, absI v = x := ⟨_, rfl⟩
      rw [hx] at HAB ar0 ar1 htm HVA
      clear hx
      go_wp2_with fail
      refine (HAB.out _).mono ?_
      rintro e w3 ⟨rfl, rfl⟩
      go_wp2_with fail
      go_ret2
      exact ⟨ret_two (by rw [H4.out, HA.out, ← HVA.out]), by first | exact HB.out | exact ((Below.refl w.heap.size w).alloc (Nat.le_refl _) _).trans (HB.out.mono (by simp))⟩
end Go.Proofs.Ytkikmmnmppikpaa
