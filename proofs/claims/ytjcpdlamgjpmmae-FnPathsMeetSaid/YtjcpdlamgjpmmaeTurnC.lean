/-
  'cyTurn' of the model: a cycle from its least number on.
-/
import Derived.Test.YtjcpdlamgjpmmaeFindC
import Derived.Deep.AppendLies
import Derived.RegionTactic
import Derived.ChangeAlike
import Derived.Test.YtjcpdlamgjpmmaePartA
namespace Go.Proofs.Ytjcpdlamgjpmmae
open Go.RowKit
set_option linter.unusedVariables false

set_option maxRecDepth 100000 in
set_option maxHeartbeats 1000000 in
/-- 'mpFar' at a part of a slice. -/
theorem mpFar_off (a : Nat → Int) (K g off cap : Nat) (w : World) (hK : K ≤ 1000) (hc : ∀ j, j ≤ K → w.cell? ⟨g, off + j, none⟩ = some (.int .i64 (a j))) :
    Calls Try.prog 50 #[.slice (some ⟨g, off, none⟩) (K + 1) cap, .bool false] w fun e w' => e = .returned (.int .i64 (far false a K)) ∧ w = w' := by
  have HC := Lib.hid hc
  have hK2 : (K : Int) ≤ 1000 := by omega
  clear hc
  go_enter Try.func50, Try.ntmps50
  go_wp2_with fail
  go_loop [5, 10] (fun b i => ∃ j : Nat, j ≤ K + 1 ∧ i = .int .i64 j ∧ b = .int .i64 (far false a (j - 1))) (fun _ i => K + 1 - (intOf i).toNat)
  case atStart => exact ⟨0, by omega, rfl, rfl⟩
  case round =>
    obtain ⟨j, hj, rfl, rfl⟩ := hrel
    obtain ⟨b, hb⟩ : ∃ b, b = far false a (j - 1) := ⟨_, rfl⟩
    rw [← hb]
    have HB := Lib.hid hb
    have hbl : b ≤ K := by have := far_le false a (j - 1); omega
    clear hb
    by_cases hlt : j < K + 1
    · have q := HC.out j (by omega)
      have qb := HC.out b hbl
      have hi1 : (j : Int) < (K : Int) + 1 := by omega
      have hi2 : (b : Int) < (K : Int) + 1 := by omega
      have hst : far false a j = if a j < a b then j else b := by
        cases j with
        | zero =>
          have hb0 : b = 0 := HB.out
          rw [hb0]; simp [far]
        | succ j => rw [far, HB.out, bet]; simp
      by_cases hc : a j < a b
      · have hst' : far false a j = j := by rw [hst, if_pos hc]
        have HST := Lib.hid hst'
        clear hst hst'
        go_wp2
        exact ⟨⟨j + 1, hlt, by go_num, by rw [Nat.add_sub_cancel, HST.out]⟩, by simp [intOf]; omega⟩
      · have hst' : far false a j = b := by rw [hst, if_neg hc]
        have HST := Lib.hid hst'
        clear hst hst'
        go_wp2
        exact ⟨⟨j + 1, hlt, by go_num, by rw [Nat.add_sub_cancel, HST.out]⟩, by simp [intOf]; omega⟩
    · obtain rfl : j = K + 1 := by omega
      have hb' : b = far false a K := by rw [HB.out, Nat.add_sub_cancel]
      have HB' := Lib.hid hb'
      have hi1 : ¬ ((K : Int) + 1 < (K : Int) + 1) := by omega
      clear hb'
      go_wp2
      go_ret
      exact ⟨ret_int (by rw [HB'.out]), rfl⟩

end Go.Proofs.Ytjcpdlamgjpmmae
