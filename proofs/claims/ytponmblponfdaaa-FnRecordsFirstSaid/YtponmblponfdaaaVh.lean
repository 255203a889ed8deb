/-
  'vHas' of the laws: does a list have a number?
-/
import Derived.Test.YtponmblponfdaaaVr
namespace Go.Proofs.Ytponmblponfdaaa
open Go.RowKit
set_option linter.unusedVariables false

/-- Does the list have the number? -/
def hasL (xs : List Int) (n : Int) : Prop := ∃ j, j < xs.length ∧ atL xs j = n

set_option maxRecDepth 100000 in
set_option maxHeartbeats 1000000 in
theorem vHas_any (xs : List Int) (n : Int) (v : Value) (w : World) (hl : xs.length ≤ 1000000) (h : IntsIn w v xs) :
    Calls Try.prog 33 #[v, .int .i64 n] w fun e w' => (∃ b : Bool, e = .returned (.bool b) ∧ (b = true ↔ hasL xs n)) ∧ Below w.heap.size w w' := by
  obtain ⟨a, cap, rfl, hx⟩ := h.at'
  have HD := Lib.hid (show ∀ b : Bool, (b = true ↔ ∃ j, j < xs.length ∧ atL xs j = n) → (b = true ↔ hasL xs n) from fun b h => h)
  generalize hK : xs.length = K at *
  have hK1 : (K : Int) ≤ 1000000 := by omega
  have HX := Lib.hid hx
  clear hx hK hl h
  go_enter Try.func33, Try.ntmps33
  go_wp2_with fail
  go_loopw [9] (fun i wr => ∃ k : Nat, k ≤ K ∧ i = .int .i64 k ∧ (∀ j, j < k → atL xs j ≠ n) ∧ Below w.heap.size w wr) (fun i _ => K - (RowKit.intOf i).toNat)
  case atStart => exact ⟨0, Nat.zero_le _, rfl, fun j h => absurd h (Nat.not_lt_zero _), Below.refl _ _⟩
  case round =>
    obtain ⟨k, hk, rfl, hno, hb⟩ := hrel
    have HN := Lib.hid hno
    clear hno
    by_cases hlt : k < K
    · obtain ⟨g, rfl, hg, hr⟩ := HX.out k hlt
      have q := (hb.cell (p := ⟨g, k, none⟩) hg).trans hr
      obtain ⟨x, hxe⟩ : ∃ x, atL xs k = x := ⟨_, rfl⟩
      have HE := Lib.hid hxe
      rw [hxe] at q
      have hk0 : (0 : Int) ≤ (k : Int) := by omega
      have hk1 : (k : Int) < (K : Int) := by omega
      clear hr hxe
      by_cases hn : x = n
      · subst hn
        go_wp2
        try go_ret
        exact ⟨⟨true, rfl, HD.out true ⟨fun _ => ⟨k, hlt, HE.out⟩, fun _ => rfl⟩⟩, by first | exact hb | exact below_drewN hb _⟩
      · go_wp2
        try go_quiet (fail)
        try go_wp2
        exact ⟨⟨k + 1, hlt, by go_num, by
          intro j hj
          rcases Nat.lt_succ_iff_lt_or_eq.mp hj with h | h
          · exact HN.out j h
          · subst h
            rw [HE.out]
            exact hn, by first | exact hb | exact below_drewN hb _⟩, by simp [RowKit.intOf]; omega⟩
    · obtain rfl : k = K := by omega
      go_wp2
      go_ret
      exact ⟨⟨false, rfl, HD.out false ⟨fun h => (by cases h), fun ⟨j, hj, e⟩ => absurd e (HN.out j hj)⟩⟩, hb⟩
end Go.Proofs.Ytponmblponfdaaa
