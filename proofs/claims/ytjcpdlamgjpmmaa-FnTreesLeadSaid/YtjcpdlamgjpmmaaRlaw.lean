/-
  'rSame', 'rRises', 'rHas', 'rIs' of the laws.
-/
import Derived.Test.YtjcpdlamgjpmmaaLists
import Derived.Test.YtjcpdlamgjpmmaaPutM
import Derived.WalkSmall
namespace Go.Proofs.Ytjcpdlamgjpmmaa
open Go.RowKit
set_option linter.unusedVariables false

theorem IntsIn.at {w : World} {v : Value} {xs : List Int} (h : IntsIn w v xs) : ∃ a cap, v = .slice a xs.length cap ∧ ∀ m, m < xs.length → ∃ g, a = some ⟨g, 0, none⟩ ∧ g < w.heap.size ∧ w.cell? ⟨g, m, none⟩ = some (.int .i64 (xs.getD m 0)) := by
  obtain ⟨a, cap, rfl, hx⟩ := h
  refine ⟨a, cap, rfl, fun m hm => ?_⟩
  obtain ⟨g, rfl, hg, hr⟩ := hx (by intro e; rw [e] at hm; simp at hm)
  exact ⟨g, rfl, hg, (hr m hm).1⟩
set_option maxRecDepth 100000 in
set_option maxHeartbeats 1000000 in
theorem rSame_any (xs : List Int) (v v' : Value) (w : World) (hl : xs.length ≤ 1000000) (h : IntsIn w v xs) (h' : IntsIn w v' xs) :
    Calls Try.prog 10 #[v, v'] w fun e w' => e = .returned (.bool true) ∧ Below w.heap.size w w' := by
  obtain ⟨a, cap, rfl, hx⟩ := h.at
  obtain ⟨a', cap', rfl, hx'⟩ := h'.at
  generalize hK : xs.length = K at *
  have hK1 : (K : Int) ≤ 1000000 := by omega
  have HX := Lib.hid hx
  have HX' := Lib.hid hx'
  clear hx hx' hK hl h h'
  go_enter Try.func10, Try.ntmps10
  go_wp2_with fail
  go_loopw [13] (fun i wr => ∃ k : Nat, k ≤ K ∧ i = .int .i64 k ∧ Below w.heap.size w wr) (fun i _ => K - (RowKit.intOf i).toNat)
  case atStart => exact ⟨0, Nat.zero_le _, rfl, Below.refl _ _⟩
  case round =>
    obtain ⟨k, hk, rfl, hb⟩ := hrel
    by_cases hlt : k < K
    · obtain ⟨g, rfl, hg, hr⟩ := HX.out k hlt
      obtain ⟨g', rfl, hg', hr'⟩ := HX'.out k hlt
      have q := (hb.cell (p := ⟨g, k, none⟩) hg).trans hr
      have q' := (hb.cell (p := ⟨g', k, none⟩) hg').trans hr'
      generalize xs.getD k 0 = x at q q'
      have hk0 : (0 : Int) ≤ (k : Int) := by omega
      have hk1 : (k : Int) < (K : Int) := by omega
      clear hr hr'
      go_wp2
      try go_quiet (fail)
      try go_wp2
      exact ⟨⟨k + 1, hlt, by go_num, by first | exact hb | exact below_drewN hb _⟩, by simp [RowKit.intOf]; omega⟩
    · obtain rfl : k = K := by omega
      go_wp2
      go_ret
      exact ⟨rfl, hb⟩
theorem rises_at {xs : List Int} (h : xs.Pairwise (· < ·)) {i : Nat} (hi : i + 1 < xs.length) : xs.getD i 0 < xs.getD (i + 1) 0 := by
  have h1 := List.pairwise_iff_getElem.1 h i (i + 1) (by omega) hi (Nat.lt_succ_self i)
  rwa [List.getD_eq_getElem?_getD, List.getD_eq_getElem?_getD, List.getElem?_eq_getElem hi, List.getElem?_eq_getElem (show i < xs.length by omega)]
set_option maxRecDepth 100000 in
set_option maxHeartbeats 1000000 in
theorem rRises_any (xs : List Int) (v : Value) (w : World) (hl : xs.length ≤ 1000000) (hp : xs.Pairwise (· < ·)) (h : IntsIn w v xs) :
    Calls Try.prog 12 #[v] w fun e w' => e = .returned (.bool true) ∧ Below w.heap.size w w' := by
  obtain ⟨a, cap, rfl, hx⟩ := h.at
  have HR := Lib.hid (fun i (hi : i + 1 < xs.length) => rises_at hp hi)
  generalize hK : xs.length = K at *
  have hK1 : (K : Int) ≤ 1000000 := by omega
  have HX := Lib.hid hx
  clear hx hK hl h hp
  go_enter Try.func12, Try.ntmps12
  go_wp2_with fail
  go_loopw [3] (fun i wr => ∃ k : Nat, k ≤ K ∧ i = .int .i64 ((k : Int) + 1) ∧ Below w.heap.size w wr) (fun i _ => K + 1 - (RowKit.intOf i).toNat)
  case atStart => exact ⟨0, Nat.zero_le _, rfl, Below.refl _ _⟩
  case round =>
    obtain ⟨k, hk, rfl, hb⟩ := hrel
    by_cases hlt : k + 1 < K
    · obtain ⟨g, rfl, hg, hr⟩ := HX.out k (by omega)
      obtain ⟨g', hgg, hg', hr'⟩ := HX.out (k + 1) hlt
      obtain rfl : g = g' := by injection hgg with h1; injection h1
      have q := (hb.cell (p := ⟨g, k, none⟩) hg).trans hr
      have q' := (hb.cell (p := ⟨g, k + 1, none⟩) hg).trans hr'
      have hxy := HR.out k hlt
      generalize xs.getD k 0 = x at q hxy
      generalize xs.getD (k + 1) 0 = y at q' hxy
      have hge : ¬ (y ≤ x) := by omega
      have hk0 : (0 : Int) ≤ (k : Int) := by omega
      have hk1 : (k : Int) + 1 < (K : Int) := by omega
      clear hr hr' hgg
      go_wp2
      try go_quiet (fail)
      try go_wp2
      exact ⟨⟨k + 1, by omega, by go_num, by first | exact hb | exact below_drewN hb _⟩, by simp [RowKit.intOf]; omega⟩
    · have hk1 : ¬ ((k : Int) + 1 < (K : Int)) := by omega
      go_wp2
      go_ret
      exact ⟨rfl, hb⟩
set_option maxRecDepth 100000 in
set_option maxHeartbeats 1000000 in
theorem rHas_any (xs : List Int) (x : Int) (v : Value) (w : World) (hl : xs.length ≤ 1000000) (h : IntsIn w v xs) :
    Calls Try.prog 29 #[v, .int .i64 x] w fun e w' => e = .returned (.bool (decide (x ∈ xs))) ∧ w = w' := by
  have HYES : Hid (∀ j, j < xs.length → xs.getD j 0 = x → decide (x ∈ xs) = true) := Lib.hid (fun j hj e => decide_eq_true (by rw [List.getD_eq_getElem?_getD, List.getElem?_eq_getElem hj] at e; exact e ▸ List.getElem_mem hj))
  have HNO : Hid ((∀ m, m < xs.length → xs.getD m 0 ≠ x) → decide (x ∈ xs) = false) := Lib.hid (fun hn => decide_eq_false (fun hm => by
    obtain ⟨j, hj, e⟩ := List.getElem_of_mem hm
    exact hn j hj (by rw [List.getD_eq_getElem?_getD, List.getElem?_eq_getElem hj]; exact e)))
  obtain ⟨a, cap, rfl, hx⟩ := h.at
  generalize decide (x ∈ xs) = r at HYES HNO ⊢
  generalize hL : xs.length = L at *
  have hll : (L : Int) ≤ 1000000 := by omega
  have HX := Lib.hid hx
  clear hx hL hl h
  go_enter Try.func29, Try.ntmps29
  go_wp2_with fail
  go_loop [9] (fun i => ∃ j : Nat, j ≤ L ∧ i = .int .i64 j ∧ ∀ m, m < j → xs.getD m 0 ≠ x) (fun i => L - (RowKit.intOf i).toNat)
  case atStart => exact ⟨0, Nat.zero_le _, rfl, by simp⟩
  case round =>
    obtain ⟨j, hj, rfl, hne⟩ := hrel
    have HNE := Lib.hid hne
    clear hne
    by_cases hlt : j < L
    · obtain ⟨g, rfl, hg, q⟩ := HX.out j hlt
      have hk1 : (j : Int) < (L : Int) := by omega
      obtain ⟨v, hv⟩ : ∃ v, xs.getD j 0 = v := ⟨_, rfl⟩
      rw [hv] at q
      have HV := Lib.hid hv
      clear hv
      by_cases he : v = x
      · subst he
        obtain rfl : r = true := HYES.out j hlt HV.out
        go_wp2
        go_ret
        exact ⟨rfl, rfl⟩
      · have HE := Lib.hid he
        go_wp2
        exact ⟨⟨j + 1, hlt, by go_num, fun m hm => by
          by_cases e : m = j
          · subst e; rw [HV.out]; exact HE.out
          · exact HNE.out m (by omega)⟩, by simp [RowKit.intOf]; omega⟩
    · obtain rfl : j = L := by omega
      obtain rfl : r = false := HNO.out HNE.out
      go_wp2
      go_ret
      exact ⟨rfl, rfl⟩
end Go.Proofs.Ytjcpdlamgjpmmaa
