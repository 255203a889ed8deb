/-
  'eqIntSS', 'markIntSS', 'heldIntSS' of the laws at rows of pairs.
-/
import Derived.Test.YtbhmplccjaijjaaPairsL
namespace Go.Proofs.Ytbhmplccjaijjaa
open Go.RowKit
set_option linter.unusedVariables false

theorem PairsAt.at {w : World} {B : Nat} {v : Value} {rs : List (Int × Int)} (h : PairsAt w B v rs) : ∃ a cap, v = .slice a rs.length cap ∧ ∀ k, k < rs.length → ∃ g b, a = some ⟨g, 0, none⟩ ∧ B ≤ g ∧ g < w.heap.size ∧ w.cell? ⟨g, k, none⟩ = some (slP b) ∧ B ≤ b ∧ b < w.heap.size ∧ PairAt w b (rs.getD k (0, 0)) := by
  obtain ⟨bs, h1, h2, h3, h4⟩ := h
  by_cases hn : 0 < rs.length
  · obtain ⟨g, cap, rfl, a1, a2, _, _, a3⟩ := row_one h1 hn
    refine ⟨_, cap, rfl, fun k hk => ?_⟩
    have hb : bs[k]? = some (bs[k]'(by omega)) := List.getElem?_eq_getElem _
    obtain ⟨b1, b2, b3⟩ := h4 k _ hb
    exact ⟨g, _, rfl, a1, a2, a3 k _ (by rw [List.getElem?_map, hb]; rfl), b1, b2, b3⟩
  · have e : rs.length = 0 := by omega
    rcases h1.2 with ⟨rfl, _⟩ | ⟨g, cap, cur, rfl, _⟩
    · exact ⟨none, 0, by rw [e], fun k hk => by omega⟩
    · exact ⟨_, cap, rfl, fun k hk => by omega⟩

set_option maxRecDepth 100000 in
set_option maxHeartbeats 2000000 in
theorem eqIntSS_any (rs : List (Int × Int)) (v v' : Value) (B B' : Nat) (w : World) (hl : rs.length ≤ 300) (h : PairsAt w B v rs) (h' : PairsAt w B' v' rs) :
    Calls Try.prog 34 #[v, v'] w fun e w' => e = .returned (.bool true) ∧ Below w.heap.size w w' := by
  obtain ⟨a, cap, rfl, hx⟩ := h.at
  obtain ⟨a', cap', rfl, hx'⟩ := h'.at
  generalize hK : rs.length = K at *
  have hK1 : (K : Int) ≤ 300 := by omega
  have HX := Lib.hid hx
  have HX' := Lib.hid hx'
  clear hx hx' hK hl h h'
  go_enter Try.func34, Try.ntmps34
  go_wp2_with fail
  go_loopw [5] (fun i wr => ∃ k : Nat, k ≤ K ∧ i = .int .i64 k ∧ Below w.heap.size w wr) (fun i _ => K - (RowKit.intOf i).toNat)
  case atStart => exact ⟨0, Nat.zero_le _, rfl, Below.refl _ _⟩
  case round =>
    obtain ⟨k, hk, rfl, hb⟩ := hrel
    have HB := Lib.hid hb
    by_cases hlt : k < K
    · obtain ⟨g, b, rfl, _, hg, q0, _, hbl, hp⟩ := HX.out k hlt
      obtain ⟨g', b', rfl, _, hg', q0', _, hbl', hp'⟩ := HX'.out k hlt
      have q : wr.cell? ⟨g, k, none⟩ = some (.slice (some ⟨b, 0, none⟩) 2 2) := (hb.cell (p := ⟨g, k, none⟩) hg).trans q0
      have q' : wr.cell? ⟨g', k, none⟩ = some (.slice (some ⟨b', 0, none⟩) 2 2) := (hb.cell (p := ⟨g', k, none⟩) hg').trans q0'
      have HQ := Lib.hid (fun w2 (hb2 : Below w.heap.size w w2) => eqIntS_pair b b' _ w w2 hb2 hp hp' hbl hbl')
      have hk0 : (0 : Int) ≤ (k : Int) := by omega
      have hk1 : (k : Int) < (K : Int) := by omega
      clear hb q0 q0' hp hp' hbl hbl'
      go_wp2_with fail
      go_region_with (go_at_call 26; refine (HQ.out _ (by first | exact HB.out | exact HB.out.drew | exact HB.out.drew.drew)).mono ?_; rintro e w2 ⟨rfl, hb2⟩)
      all_goals
        try go_wp2
        exact ⟨⟨k + 1, hlt, by go_num, by first | exact hb2 | exact hb2.drew⟩, by simp [RowKit.intOf]; omega⟩
    · obtain rfl : k = K := by omega
      clear hb
      go_wp2_with fail
      go_ret
      exact ⟨rfl, HB.out⟩

theorem Touch.grown1 {b : Nat} {w w' : World} (h : Touch b (b + 1) w w') : w.grownBy w' (some b) := ⟨h.os, h.tape, h.output, h.size, fun k hk hne => h.block k hk (by have : k ≠ b := fun e => hne (by rw [e]); omega)⟩
/-- The numbers 1, 2, .. in pairs. -/
def markP (n : Nat) : List (Int × Int) := (List.range n).map fun (i : Nat) => (2 * (i : Int) + 1, 2 * (i : Int) + 2)
theorem markP_length (n : Nat) : (markP n).length = n := by simp [markP]
theorem markP_at {n k : Nat} (h : k < n) : (markP n).getD k (0, 0) = (2 * (k : Int) + 1, 2 * (k : Int) + 2) := by
  simp [markP, List.getD_eq_getElem?_getD, h]

set_option maxRecDepth 100000 in
set_option maxHeartbeats 2000000 in
theorem markIntSS_any (rs : List (Int × Int)) (v : Value) (B : Nat) (w : World) (hl : rs.length ≤ 300) (hB : B ≤ w.heap.size) (h : PairsAt w B v rs) :
    Calls Try.prog 35 #[v, .int .i64 1] w fun e w' => e = .returned (.int .i64 (2 * (rs.length : Int) + 1)) ∧ Below B w w' ∧ PairsAt w' B v (markP rs.length) := by
  obtain ⟨a, cap, rfl, hx⟩ := h.at
  obtain ⟨bs, h1, h2, h3, h4⟩ := h
  have HX : Hid (∀ k, k < rs.length → ∃ g b, a = some ⟨g, 0, none⟩ ∧ bs[k]? = some b) := Lib.hid (fun k hk => by
    obtain ⟨g, b, e, _⟩ := hx k hk
    exact ⟨g, bs[k]'(by omega), e, List.getElem?_eq_getElem _⟩)
  generalize hK : rs.length = K at *
  have hK1 : (K : Int) ≤ 300 := by omega
  have HND := Lib.hid h3
  have HBL := Lib.hid h2
  have H1 := Lib.hid h1
  have H4 : Hid (∀ (k b : Nat), bs[k]? = some b → B ≤ b ∧ b < w.heap.size ∧ PairAt w b (if k < 0 then (2 * (k : Int) + 1, 2 * (k : Int) + 2) else rs.getD k (0, 0))) := Lib.hid (fun k b hk => by rw [if_neg (by omega)]; exact h4 k b hk)
  clear hx hK hl h1 h2 h3 h4
  go_enter Try.func35, Try.ntmps35
  go_wp2_with fail
  go_loopw [1, 5] (fun m i wr => ∃ j : Nat, j ≤ K ∧ i = .int .i64 j ∧ m = .int .i64 (2 * (j : Int) + 1) ∧ wr.ownsRow B 38 1 (.slice a K cap) K (bs.map slP) ∧ (∀ (k b : Nat), bs[k]? = some b → B ≤ b ∧ b < wr.heap.size ∧ PairAt wr b (if k < j then (2 * (k : Int) + 1, 2 * (k : Int) + 2) else rs.getD k (0, 0))) ∧ Below B w wr) (fun _ i _ => K - (RowKit.intOf i).toNat)
  case atStart => exact ⟨0, Nat.zero_le _, rfl, rfl, H1.out, H4.out, Below.refl _ _⟩
  case round =>
    obtain ⟨j, hj, rfl, rfl, hrow, hall, hbel⟩ := hrel
    have HROW := Lib.hid hrow
    have HALL := Lib.hid hall
    have HB := Lib.hid hbel
    by_cases hlt : j < K
    · obtain ⟨g, b, rfl, hbj⟩ := HX.out j hlt
      obtain ⟨g2, cap2, e2, _, hg, _, _, hc⟩ := row_one hrow (by omega)
      obtain rfl : g2 = g := by injection e2 with e3; injection e3 with e4; injection e4 with e5; exact e5.symm
      have q : wr.cell? ⟨g2, j, none⟩ = some (.slice (some ⟨b, 0, none⟩) 2 2) := hc j _ (by rw [List.getElem?_map, hbj]; rfl)
      obtain ⟨hb1, hb2, hpa⟩ := hall j b hbj
      have hap := pairs_apart hrow hbj hpa
      have HAP := Lib.hid hap
      have HBJ := Lib.hid hbj
      have HB12 := Lib.hid (And.intro hb1 hb2)
      have HMK := Lib.hid (markIntS_pair b _ (2 * (j : Int) + 1) wr hpa (by omega) (by omega) hb2)
      have hlt2 : (j : Int) < (K : Int) := by omega
      clear hrow hall hbel hc hpa hap e2 hbj hb1 hb2
      go_wp2_with fail
      refine HMK.out.mono ?_
      rintro e w2 ⟨rfl, ht, hp2⟩
      have hg1 := Touch.grown1 ht
      have hrow2 : w2.ownsRow B 38 1 (.slice (some ⟨g2, 0, none⟩) K cap) K (bs.map slP) := HROW.out.kept hg1 (.inr HAP.out)
      have hall2 : ∀ (k c : Nat), bs[k]? = some c → B ≤ c ∧ c < w2.heap.size ∧ PairAt w2 c (if k < j + 1 then (2 * (k : Int) + 1, 2 * (k : Int) + 2) else rs.getD k (0, 0)) := by
        intro k c hk
        obtain ⟨a1, a2, a3⟩ := HALL.out k c hk
        refine ⟨a1, Nat.lt_of_lt_of_le a2 hg1.size, ?_⟩
        by_cases e : k = j
        · subst e
          have ecb : c = b := by have := HBJ.out; rw [hk] at this; injection this
          subst ecb
          rw [if_pos (Nat.lt_succ_self _)]
          rw [show 2 * (k : Int) + 1 + 1 = 2 * (k : Int) + 2 by omega] at hp2
          exact hp2
        · have hne : c ≠ b := fun ec => by
            subst ec
            have l1 := (List.getElem?_eq_some_iff.1 hk).1
            have l2 := (List.getElem?_eq_some_iff.1 HBJ.out).1
            have := (List.getElem_inj (h₀ := l1) (h₁ := l2) HND.out).1 (by rw [(List.getElem?_eq_some_iff.1 hk).2, (List.getElem?_eq_some_iff.1 HBJ.out).2])
            exact e this
          have ei : (if k < j + 1 then (2 * (k : Int) + 1, 2 * (k : Int) + 2) else rs.getD k (0, 0)) = (if k < j then (2 * (k : Int) + 1, 2 * (k : Int) + 2) else rs.getD k (0, 0)) := by
            by_cases h : k < j
            · rw [if_pos h, if_pos (by omega)]
            · rw [if_neg h, if_neg (by omega)]
          rw [ei]
          exact a3.of (hg1.block c a2 (fun x => hne (by injection x)))
      have hbel2 : Below B w w2 := HB.out.grown hg1 (Nat.le_trans hB HB.out.size) (fun k e => by cases e; exact HB12.out.1)
      have HR2 := Lib.hid hrow2
      have HA2 := Lib.hid hall2
      have HB2 := Lib.hid hbel2
      clear ht hp2 hg1 hrow2 hall2 hbel2 q
      go_wp2_with fail
      exact ⟨⟨j + 1, hlt, by go_num, by go_num, HR2.out, HA2.out, HB2.out⟩, by simp [RowKit.intOf]; omega⟩
    · obtain rfl : j = K := by omega
      have hlt2 : ¬ ((j : Int) < (j : Int)) := by omega
      have hfin : PairsAt wr B (.slice a j cap) (markP j) := by
        refine ⟨bs, by rw [markP_length]; exact hrow, by rw [markP_length]; exact HBL.out, HND.out, fun k b hk => ?_⟩
        have hkl : k < j := by have := (List.getElem?_eq_some_iff.1 hk).1; have := HBL.out; omega
        obtain ⟨a1, a2, a3⟩ := hall k b hk
        rw [if_pos hkl] at a3
        rw [markP_at hkl]
        exact ⟨a1, a2, a3⟩
      have HFIN := Lib.hid hfin
      clear hrow hall hbel hfin
      go_wp2_with fail
      go_ret
      exact ⟨rfl, HB.out, HFIN.out⟩

set_option maxRecDepth 100000 in
set_option maxHeartbeats 2000000 in
theorem heldIntSS_any (n : Nat) (v : Value) (B : Nat) (w : World) (hl : n ≤ 300) (h : PairsAt w B v (markP n)) :
    Calls Try.prog 36 #[v, .int .i64 1] w fun e w' => e = .returned (.int .i64 (2 * (n : Int) + 1)) ∧ w = w' := by
  obtain ⟨a, cap, rfl, hx⟩ := h.at
  rw [markP_length] at hx ⊢
  have hK1 : (n : Int) ≤ 300 := by omega
  have HX := Lib.hid hx
  clear hx hl h
  go_enter Try.func36, Try.ntmps36
  go_wp2_with fail
  go_loop [1, 5] (fun m i => ∃ j : Nat, j ≤ n ∧ i = .int .i64 j ∧ m = .int .i64 (2 * (j : Int) + 1)) (fun _ i => n - (RowKit.intOf i).toNat)
  case atStart => exact ⟨0, Nat.zero_le _, rfl, rfl⟩
  case round =>
    obtain ⟨j, hj, rfl, rfl⟩ := hrel
    by_cases hlt : j < n
    · obtain ⟨g, b, rfl, _, hg, q0, _, hbl, hp⟩ := HX.out j hlt
      rw [markP_at hlt] at hp
      have q : w.cell? ⟨g, j, none⟩ = some (.slice (some ⟨b, 0, none⟩) 2 2) := q0
      have HQ := Lib.hid (heldIntS_pair b (2 * (j : Int) + 1) w (by rw [show 2 * (j : Int) + 1 + 1 = 2 * (j : Int) + 2 by omega]; exact hp) (by omega) (by omega) hbl)
      have hlt2 : (j : Int) < (n : Int) := by omega
      clear q0 hp
      go_wp2_with (go_at_call 29; refine HQ.out.mono ?_; rintro e w2 ⟨rfl, rfl⟩)
      exact ⟨⟨j + 1, hlt, by go_num, by go_num⟩, by simp [RowKit.intOf]; omega⟩
    · obtain rfl : j = n := by omega
      have hlt2 : ¬ ((j : Int) < (j : Int)) := by omega
      go_wp2_with fail
      go_ret
      exact ⟨rfl, rfl⟩
end Go.Proofs.Ytbhmplccjaijjaa
