/-
  'vSame', 'vRows' of the laws.
-/
import Derived.Test.YtponmblponfdaaaPairs
import Derived.Test.YtponmblponfdaaaSlices
import Derived.WalkSmall
namespace Go.Proofs.Ytponmblponfdaaa
open Go.RowKit
set_option linter.unusedVariables false

set_option maxRecDepth 100000 in
set_option maxHeartbeats 1000000 in
theorem vSame_any (xs : List Int) (v v' : Value) (w : World) (hl : xs.length ≤ 1000000) (h : IntsIn w v xs) (h' : IntsIn w v' xs) :
    Calls Try.prog 21 #[v, v'] w fun e w' => e = .returned (.bool true) ∧ Below w.heap.size w w' := by
  obtain ⟨a, cap, rfl, hx⟩ := h.at'
  obtain ⟨a', cap', rfl, hx'⟩ := h'.at'
  generalize hK : xs.length = K at *
  have hK1 : (K : Int) ≤ 1000000 := by omega
  have HX := Lib.hid hx
  have HX' := Lib.hid hx'
  clear hx hx' hK hl h h'
  go_enter Try.func21, Try.ntmps21
  go_wp2_with fail
  go_loopw [13] (fun i wr => ∃ k : Nat, k ≤ K ∧ i = .int .i64 k ∧ Below w.heap.size w wr) (fun i _ => K - (RowKit.intOf i).toNat)
  case atStart => exact ⟨0, Nat.zero_le _, rfl, Below.refl _ _⟩
  case round =>
    obtain ⟨k, hk, rfl, hb⟩ := hrel
    by_cases hlt : k < K
    · obtain ⟨g, rfl, hg, hr⟩ := HX.out k hlt
      obtain ⟨g', rfl, hg', hr'⟩ := HX'.out k hlt
      have q := (hb.cell (p := ⟨g, k, none⟩) hg).trans hr
      have q' := (hb.cell (p := ⟨g', k, none⟩) hg').trans hr'
      generalize atL xs k = x at q q'
      have hk0 : (0 : Int) ≤ (k : Int) := by omega
      have hk1 : (k : Int) < (K : Int) := by omega
      clear hr hr'
      go_wp2
      try go_quiet (fail)
      try go_wp2
      exact ⟨⟨k + 1, hlt, by go_num, by first | exact hb | exact below_drewN hb _⟩, by simp [RowKit.intOf]; omega⟩
    · obtain rfl : k = K := by omega
      go_wp2
      go_ret
      exact ⟨rfl, hb⟩

theorem PairAt.isIn {w : World} {b : Nat} {r : Int × Int} (h : PairAt w b r) (hb : b < w.heap.size) : IntsIn w (slP b) [r.1, r.2] := ⟨_, 2, rfl, fun _ => ⟨b, rfl, hb, h.row⟩⟩
theorem vSame_pair (b b' : Nat) (r : Int × Int) (w0 w : World) (hb0 : Below w0.heap.size w0 w) (h : PairAt w0 b r) (h' : PairAt w0 b' r) (hl : b < w0.heap.size) (hl' : b' < w0.heap.size) :
    Calls Try.prog 21 #[slP b, slP b'] w fun e w' => e = .returned (.bool true) ∧ Below w0.heap.size w0 w' := by
  have := vSame_any [r.1, r.2] (slP b) (slP b') w (by simp) ((h.isIn hl).kept hb0) ((h'.isIn hl').kept hb0)
  exact this.mono fun e w' ⟨h1, h3⟩ => ⟨h1, hb0.trans (h3.mono hb0.size)⟩

set_option maxRecDepth 100000 in
set_option maxHeartbeats 2000000 in
theorem vRows_any (rs : List (Int × Int)) (v v' : Value) (B B' : Nat) (w : World) (hl : rs.length ≤ 300) (h : PairsAt w B v rs) (h' : PairsAt w B' v' rs) :
    Calls Try.prog 20 #[v, v'] w fun e w' => e = .returned (.bool true) ∧ Below w.heap.size w w' := by
  obtain ⟨a, cap, rfl, hx⟩ := h.at
  obtain ⟨a', cap', rfl, hx'⟩ := h'.at
  generalize hK : rs.length = K at *
  have hK1 : (K : Int) ≤ 300 := by omega
  have HX := Lib.hid hx
  have HX' := Lib.hid hx'
  clear hx hx' hK hl h h'
  go_enter Try.func20, Try.ntmps20
  go_wp2_with fail
  go_loopw [13] (fun i wr => ∃ k : Nat, k ≤ K ∧ i = .int .i64 k ∧ Below w.heap.size w wr) (fun i _ => K - (RowKit.intOf i).toNat)
  case atStart => exact ⟨0, Nat.zero_le _, rfl, Below.refl _ _⟩
  case round =>
    obtain ⟨k, hk, rfl, hb⟩ := hrel
    have HB := Lib.hid hb
    by_cases hlt : k < K
    · obtain ⟨g, b, rfl, _, hg, q0, _, hbl, hp⟩ := HX.out k hlt
      obtain ⟨g', b', rfl, _, hg', q0', _, hbl', hp'⟩ := HX'.out k hlt
      have q : wr.cell? ⟨g, k, none⟩ = some (.slice (some ⟨b, 0, none⟩) 2 2) := (hb.cell (p := ⟨g, k, none⟩) hg).trans q0
      have q' : wr.cell? ⟨g', k, none⟩ = some (.slice (some ⟨b', 0, none⟩) 2 2) := (hb.cell (p := ⟨g', k, none⟩) hg').trans q0'
      have HQ := Lib.hid (fun w2 (hb2 : Below w.heap.size w w2) => vSame_pair b b' _ w w2 hb2 hp hp' hbl hbl')
      have hk0 : (0 : Int) ≤ (k : Int) := by omega
      have hk1 : (k : Int) < (K : Int) := by omega
      clear hb q0 q0' hp hp' hbl hbl'
      go_wp2_with fail
      go_region_with (go_at_call 21; refine (HQ.out _ (by first | exact HB.out | exact HB.out.drew | exact HB.out.drew.drew)).mono ?_; rintro e w2 ⟨rfl, hb2⟩)
      all_goals
        try go_wp2
        exact ⟨⟨k + 1, hlt, by go_num, by first | exact hb2 | exact hb2.drew⟩, by simp [RowKit.intOf]; omega⟩
    · obtain rfl : k = K := by omega
      clear hb
      go_wp2_with fail
      go_ret
      exact ⟨rfl, HB.out⟩
end Go.Proofs.Ytponmblponfdaaa
