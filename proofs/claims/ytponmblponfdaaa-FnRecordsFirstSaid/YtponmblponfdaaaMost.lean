/-
  'mpFar', 'reMost' of the model at any list.
-/
import Derived.Test.YtponmblponfdaaaListI
import Derived.Test.YtponmblponfdaaaRecI
import Derived.BigQuiet
import Derived.Deep.QuietTactic
namespace Go.Proofs.Ytponmblponfdaaa
open Go.RowKit
set_option linter.unusedVariables false

set_option maxRecDepth 100000 in
set_option maxHeartbeats 1000000 in
theorem mpFar_list (a : Nat → Int) (K g cap : Nat) (w : World) (hK : K ≤ 1000) (hc : ∀ j, j ≤ K → w.cell? ⟨g, j, none⟩ = some (.int .i64 (a j))) :
    Calls Try.prog 60 #[.slice (some ⟨g, 0, none⟩) (K + 1) cap, .bool true] w fun e w' => e = .returned (.int .i64 (far true a K)) ∧ w = w' := by
  have hK2 : (K : Int) ≤ 1000 := by omega
  have HC := Lib.hid hc
  clear hc
  go_enter Try.func60, Try.ntmps60
  go_wp2_with fail
  go_loop [5, 10] (fun b i => ∃ j : Nat, j ≤ K + 1 ∧ i = .int .i64 j ∧ b = .int .i64 (far true a (j - 1))) (fun _ i => K + 1 - (RowKit.intOf i).toNat)
  case atStart => exact ⟨0, by omega, rfl, rfl⟩
  case round =>
    obtain ⟨j, hj, rfl, rfl⟩ := hrel
    obtain ⟨b, hb⟩ : ∃ b, b = far true a (j - 1) := ⟨_, rfl⟩
    rw [← hb]
    have HB := Lib.hid hb
    have hbl : b ≤ K := by have := far_le true a (j - 1); omega
    clear hb
    by_cases hlt : j < K + 1
    · have q := HC.out j (by omega)
      have qb := HC.out b hbl
      have hi1 : (j : Int) < (K : Int) + 1 := by omega
      have hi2 : (b : Int) < (K : Int) + 1 := by omega
      have hst : far true a j = if a b < a j then j else b := by
        cases j with
        | zero =>
          have hb0 : b = 0 := HB.out
          rw [hb0]; simp [far]
        | succ j => rw [far, HB.out, bet]; simp
      by_cases hc : a b < a j
      · have hst' : far true a j = j := by rw [hst, if_pos hc]
        have HST := Lib.hid hst'
        clear hst hst'
        go_wp2
        exact ⟨⟨j + 1, hlt, by go_num, by rw [Nat.add_sub_cancel, HST.out]⟩, by simp [RowKit.intOf]; omega⟩
      · have hst' : far true a j = b := by rw [hst, if_neg hc]
        have HST := Lib.hid hst'
        clear hst hst'
        go_wp2
        exact ⟨⟨j + 1, hlt, by go_num, by rw [Nat.add_sub_cancel, HST.out]⟩, by simp [RowKit.intOf]; omega⟩
    · obtain rfl : j = K + 1 := by omega
      have hb' : b = far true a K := by rw [HB.out, Nat.add_sub_cancel]
      have HB' := Lib.hid hb'
      have hi1 : ¬ ((K : Int) + 1 < (K : Int) + 1) := by omega
      clear hb'
      go_wp2
      go_ret
      exact ⟨ret_int (by rw [HB'.out]), rfl⟩

theorem far_true_step (a : Nat → Int) (k : Nat) : far true a (k + 1) = if a (far true a k) < a (k + 1) then k + 1 else far true a k := by
  rw [far, bet]; simp
/-- Records of a list. -/
def rcL (xs : List Int) : List (Int × Int) := recK (atL xs) xs.length
theorem rcL_len (xs : List Int) : (rcL xs).length ≤ xs.length := recK_len _ _
def Bnd (xs : List Int) : Prop := ∀ j, j < xs.length → -1 ≤ atL xs j ∧ atL xs j ≤ 1000000000000
theorem rcL_ok {xs : List Int} (h : Bnd xs) : RecOk (rcL xs) := recK_ok fun j hj => (h j hj).1
theorem rcL_nil : rcL [] = [] := rfl
set_option maxRecDepth 100000 in
set_option maxHeartbeats 2000000 in
theorem reMost_any (xs : List Int) (v : Value) (w : World) (hl : xs.length ≤ 300) (h0 : 0 < xs.length) (hm : Bnd xs) (h : IntsIn w v xs) :
    Calls Try.prog 43 #[v] w fun e w' => e = .returned (.tuple #[.int .i64 (lastR (rcL xs)).1, .int .i64 (lastR (rcL xs)).2, .bool (anyR (rcL xs))]) ∧ Below w.heap.size w w' := by
  obtain ⟨a, cap, rfl, hx⟩ := h.at'
  obtain ⟨K, hK⟩ : ∃ K, xs.length = K + 1 := ⟨xs.length - 1, by omega⟩
  have hlf := last_far (a := atL xs) (F := far true (atL xs)) (N := K + 1) rfl (far_true_step _) (fun j hj => (hm j (by omega)).1) K (by omega)
  unfold rcL anyR
  obtain ⟨f, hf⟩ : ∃ f, atL xs = f := ⟨_, rfl⟩
  unfold Bnd at hm
  rw [hK] at hm hx hl ⊢
  rw [hf] at hm hx hlf ⊢
  obtain ⟨g, rfl, hg, _⟩ := hx 0 (by omega)
  have HC : Hid (∀ j, j ≤ K → w.cell? ⟨g, j, none⟩ = some (.int .i64 (f j))) := Lib.hid (fun j hj => by
    obtain ⟨g', e, _, q⟩ := hx j (by omega)
    obtain rfl : g = g' := by injection e with e1; injection e1
    exact q)
  have HF := Lib.hid (mpFar_list f K g cap w (by omega) HC.out)
  obtain ⟨F, hF⟩ : ∃ F, far true f K = F := ⟨_, rfl⟩
  rw [hF] at HF hlf
  obtain ⟨l1, _, l3⟩ := hlf
  have q := HC.out F l1
  have hb := hm F (by omega)
  have hK2 : (K : Int) ≤ 299 := by omega
  have hF2 : (F : Int) ≤ (K : Int) := by omega
  have hF3 : (F : Int) < (K : Int) + 1 := by omega
  obtain ⟨x, hxx⟩ : ∃ x, f F = x := ⟨_, rfl⟩
  rw [hxx] at q l3 hb
  by_cases hneg : x < 0
  · rw [if_pos hneg] at l3
    have HL := Lib.hid l3
    clear hx hm l3 hF hf h0 hl h hK HC hxx
    go_enter Try.func43, Try.ntmps43
    go_wp2_with (go_at_call 60; refine HF.out.mono ?_; rintro e w' ⟨rfl, rfl⟩)
    go_ret3
    exact ⟨by rw [HL.out]; rfl, Below.refl _ _⟩
  · rw [if_neg hneg] at l3
    have HL := Lib.hid l3
    have HNE : Hid (decide (((F : Int) + 1, x) ≠ ((0 : Int), (0 : Int))) = true) := Lib.hid (by
      rw [decide_eq_true_eq]
      intro e
      have := congrArg Prod.fst e
      dsimp only at this
      omega)
    clear hx hm l3 hF hf h0 hl h hK HC hxx
    go_enter Try.func43, Try.ntmps43
    go_wp2_with (go_at_call 60; refine HF.out.mono ?_; rintro e w' ⟨rfl, rfl⟩)
    try go_quiet (fail)
    try go_wp2
    go_ret3
    exact ⟨by rw [HL.out, HNE.out]; rfl, by first | exact Below.refl _ _ | exact below_drewN (Below.refl _ _) _⟩
end Go.Proofs.Ytponmblponfdaaa
