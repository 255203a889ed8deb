/-
  'vTexts' of the laws: two lists of strings that read alike.
-/
import Derived.Test.YtnhpoefhcngoaaaDoorOwn
import Derived.WalkSmall
import Derived.BigQuiet
namespace Go.Proofs.YtnhpoefhcngoaaaDoor
open Go.RowKit
set_option linter.unusedVariables false

set_option maxRecDepth 100000 in
set_option maxHeartbeats 1000000 in
theorem vTexts_any (xs : List ByteArray) (v v' : Value) (w : World) (hl : xs.length ≤ 1024) (h : StrsIn w v xs) (h' : StrsIn w v' xs) :
    Calls Tryd.prog 24 #[v, v'] w fun e w' => e = .returned (.bool true) ∧ Below w.heap.size w w' := by
  obtain ⟨a, cap, rfl, hx⟩ := h
  obtain ⟨a', cap', rfl, hx'⟩ := h'
  obtain ⟨K, hK⟩ : ∃ K, K = xs.length := ⟨_, rfl⟩
  rw [← hK] at hl ⊢
  have HK := Lib.hid hK
  have hK1 : (K : Int) ≤ 1024 := by omega
  have HX := Lib.hid hx
  have HX' := Lib.hid hx'
  clear hx hx' hK hl
  go_enter Tryd.func24, Tryd.ntmps24
  go_wp2_with fail
  go_loopw [13] (fun i wr => ∃ k : Nat, k ≤ K ∧ i = .int .i64 k ∧ Below w.heap.size w wr) (fun i _ => K - (RowKit.intOf i).toNat)
  case atStart => exact ⟨0, Nat.zero_le _, rfl, Below.refl _ _⟩
  case round =>
    obtain ⟨k, hk, rfl, hb⟩ := hrel
    by_cases hlt : k < K
    · have hne : xs ≠ [] := by intro e; rw [e] at HK; have := HK.out; simp at this; omega
      obtain ⟨g, rfl, hg, hr⟩ := HX.out hne
      obtain ⟨g', rfl, hg', hr'⟩ := HX'.out hne
      have q : wr.cell? ⟨g, k, none⟩ = some (.string (xs.getD k ⟨#[]⟩)) := (hb.cell (p := ⟨g, k, none⟩) hg).trans (hr k (by rw [← HK.out]; exact hlt)).1
      have q' : wr.cell? ⟨g', k, none⟩ = some (.string (xs.getD k ⟨#[]⟩)) := (hb.cell (p := ⟨g', k, none⟩) hg').trans (hr' k (by rw [← HK.out]; exact hlt)).1
      generalize xs.getD k ⟨#[]⟩ = x at q q'
      have hxx : (x.toList == x.toList) = true := beq_self_eq_true _
      have hk0 : (0 : Int) ≤ (k : Int) := by omega
      have hk1 : (k : Int) < (K : Int) := by omega
      clear hr hr' hne
      go_wp2
      try go_quiet (fail)
      try go_wp2
      exact ⟨⟨k + 1, hlt, by go_num, by first | exact hb | exact below_drewN hb _⟩, by simp [RowKit.intOf]; omega⟩
    · obtain rfl : k = K := by omega
      go_wp2
      go_ret
      exact ⟨rfl, hb⟩
end Go.Proofs.YtnhpoefhcngoaaaDoor
