/-
  'eqIntSS', 'markIntSS', 'heldIntSS' of the laws at rows of pairs.
-/
import Derived.Test.YtkikmmnmppikpaaPairsL
namespace Go.Proofs.Ytkikmmnmppikpaa
open Go.RowKit
set_option linter.unusedVariables false

theorem PairsAt.at {w : World} {B : Nat} {v : Value} {rs : List (Int × Int)} (h : PairsAt w B v rs) : ∃ a cap, v = .slice a rs.length cap ∧ ∀ k, k < rs.length → ∃ g b, a = some ⟨g, 0, none⟩ ∧ B ≤ g ∧ g < w.heap.size ∧ w.cell? ⟨g, k, none⟩ = some (slP b) ∧ B ≤ b ∧ b < w.heap.size ∧ PairAt w b (rs.getD k (0, 0)) := by
  obtain ⟨bs, h1, h2, h3, h4⟩ := h
  by_cases hn : 0 < rs.length
  · obtain ⟨g, cap, rfl, a1, a2, _, _, a3⟩ := row_one h1 hn
    refine ⟨_, cap, rfl, fun k hk => ?_⟩
    have hb : bs[k]? = some (bs[k]'(by omega)) := List.getElem?_eq_getElem _
    obtain ⟨b1, b2, b3⟩ := h4 k _ hb
    exact ⟨g, _, rfl, a1, a2, a3 k _ (by rw [List.getElem?_map, hb]; rfl), b1, b2, b3⟩
  · have e : rs.length = 0 := by omega
    rcases h1.2 with ⟨rfl, _⟩ | ⟨g, cap, cur, rfl, _⟩
    · exact ⟨none, 0, by rw [e], fun k hk => by omega⟩
    · exact ⟨_, cap, rfl, fun k hk => by omega⟩

set_option maxRecDepth 100000 in
set_option maxHeartbeats 2000000 in
theorem eqIntSS_any (rs : List (Int × Int)) (v v' : Value) (B B' : Nat) (w : World) (hl : rs.length ≤ 300) (h : PairsAt w B v rs) (h' : PairsAt w B' v' rs) :
    Calls Try.prog 21 #[v, v'] w fun e w' => e = .returned (.bool true) ∧ Below w.heap.size w w' := by
  obtain ⟨a, cap, rfl, hx⟩ := h.at
  obtain ⟨a', cap', rfl, hx'⟩ := h'.at
  generalize hK : rs.length = K at *
  have hK1 : (K : Int) ≤ 300 := by omega
  have HX := Lib.hid hx
  have HX' := Lib.hid hx'
  clear hx hx' hK hl h h'
  go_enter Try.func21, Try.ntmps21
  go_wp2_with fail
  go_loopw [5] (fun i wr => ∃ k : Nat, k ≤ K ∧ i = .int .i64 k ∧ Below w.heap.size w wr) (fun i _ => K - (RowKit.intOf i).toNat)
  case atStart => exact ⟨0, Nat.zero_le _, rfl, Below.refl _ _⟩
  case round =>
    obtain ⟨k, hk, rfl, hb⟩ := hrel
    have HB := Lib.hid hb
    by_cases hlt : k < K
    · obtain ⟨g, b, rfl, _, hg, q0, _, hbl, hp⟩ := HX.out k hlt
      obtain ⟨g', b', rfl, _, hg', q0', _, hbl', hp'⟩ := HX'.out k hlt
      have q : wr.cell? ⟨g, k, none⟩ = some (.slice (some ⟨b, 0, none⟩) 2 2) := (hb.cell (p := ⟨g, k, none⟩) hg).trans q0
      have q' : wr.cell? ⟨g', k, none⟩ = some (.slice (some ⟨b', 0, none⟩) 2 2) := (hb.cell (p := ⟨g', k, none⟩) hg').trans q0'
      have HQ := Lib.hid (fun w2 (hb2 : Below w.heap.size w w2) => eqIntS_pair b b' _ w w2 hb2 hp hp' hbl hbl')
      have hk0 : (0 : Int) ≤ (k : Int) := by omega
      have hk1 : (k : Int) < (K : Int) := by omega
      clear hb q0 q0' hp hp' hbl hbl'
      go_wp2_with fail
      go_region_with (go_at_call 52; refine (HQ.out _ (by first | exact HB.out | exact HB.out.drew | exact HB.out.drew.drew)).mono ?_; rintro e w2 ⟨rfl, hb2⟩)
      all_goals
        try go_wp2
        exact ⟨⟨k + 1, hlt, by go_num, by first | exact hb2 | exact hb2.drew⟩, by simp [RowKit.intOf]; omega⟩
    · obtain rfl : k = K := by omega
      clear hb
      go_wp2_with fail
      go_ret
      exact ⟨rfl, HB.out⟩

theorem Touch.grown1 {b : Nat} {w w' : World} (h : Touch b (b + 1) w w') : w.grownBy w' (some b) := ⟨h.os, h.tape, h.output, h.size, fun k hk hne => h.block k hk (by have : k ≠ b := fun e => hne (by rw [e]); omega)⟩
/-- The numbers 1, 2, .. in pairs. -/
def markP (n : Nat) : List (Int × Int) := (List.range n).map fun (i : Nat) => (2 * (i : Int) + 1, 2 * (i : Int) + 2)
theorem markP_length (n : Nat) : (markP n).length = n := by simp [markP]
theorem markP_at {n k : Nat} (h : k < n) : (markP n).getD k (0, 0) = (2 * (k : Int) + 1, 2 * (k : Int) + 2) := by
  simp [markP, List.getD_eq_getElem?_getD, h]

end Go.Proofs.Ytkikmmnmppikpaa
