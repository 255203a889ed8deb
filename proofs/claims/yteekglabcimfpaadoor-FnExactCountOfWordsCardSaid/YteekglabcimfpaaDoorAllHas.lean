/-
  'l1All' and 'l1HasS' of the model.
-/
import Derived.Test.YteekglabcimfpaaDoorLists
import Derived.Test.YteekglabcimfpaaDoorStrOwn
import Derived.Test.YteekglabcimfpaaDoorDist
namespace Go.Proofs.YteekglabcimfpaaDoor
open Go.RowKit
set_option linter.unusedVariables false

theorem all_step {xs : List Int} {lo hi : Int} {k : Nat} (h : ∀ j, j < k → inB (xs.getD j 0) lo hi = true) (hx : inB (xs.getD k 0) lo hi = true) : ∀ j, j < k + 1 → inB (xs.getD j 0) lo hi = true := by
  intro j hj
  by_cases e : j = k
  · subst e; exact hx
  · exact h j (by omega)
theorem all_full {xs : List Int} {lo hi : Int} (h : ∀ j, j < xs.length → inB (xs.getD j 0) lo hi = true) : xs.all (fun n => inB n lo hi) = true := by
  rw [List.all_eq_true]
  intro x hx
  obtain ⟨j, hj, rfl⟩ := List.getElem_of_mem hx
  have := h j hj
  simpa [List.getD, hj] using this
theorem all_not {xs : List Int} {lo hi : Int} {j : Nat} (hj : j < xs.length) (h : inB (xs.getD j 0) lo hi = false) : xs.all (fun n => inB n lo hi) = false := by
  rw [Bool.eq_false_iff]
  intro h'
  rw [List.all_eq_true] at h'
  have := h' (xs.getD j 0) (by simp [List.getD, hj])
  rw [h] at this; cases this
theorem ret_b {x y : Bool} (h : x = y) : Ending.returned (.bool x) = .returned (.bool y) := by rw [h]

set_option maxRecDepth 100000 in
set_option maxHeartbeats 2000000 in
theorem l1All_any (xs : List Int) (lo hi : Int) (v : Value) (w : World) (hl : xs.length ≤ 1048576) (h : IntsIn w v xs) :
    Calls Tryd.prog 40 #[v, .int .i64 lo, .int .i64 hi] w fun e w' => e = .returned (.bool (xs.all fun n => inB n lo hi)) ∧ w = w' := by
  obtain ⟨a, cap, rfl, hx⟩ := h
  have HF := Lib.hid (fun h => all_full (xs := xs) (lo := lo) (hi := hi) h)
  have HN := Lib.hid (fun j hj h => all_not (xs := xs) (lo := lo) (hi := hi) (j := j) hj h)
  generalize (xs.all fun n => inB n lo hi) = ok at HF HN ⊢
  obtain ⟨K, hK⟩ : ∃ K, K = xs.length := ⟨_, rfl⟩
  rw [← hK] at hl HF HN ⊢
  have HK := Lib.hid hK
  have hK1 : (K : Int) ≤ 1048576 := by omega
  have HX := Lib.hid hx
  clear hx hK
  go_enter Tryd.func40, Tryd.ntmps40
  go_wp2_with fail
  go_loop [11] (fun i => ∃ k : Nat, k ≤ K ∧ i = .int .i64 k ∧ Hid (∀ j, j < k → inB (xs.getD j 0) lo hi = true)) (fun i => K - (intOf i).toNat)
  case atStart => exact ⟨0, Nat.zero_le _, rfl, Lib.hid (fun j hj => by omega)⟩
  case round =>
    obtain ⟨k, hk, rfl, H⟩ := hrel
    by_cases hlt : k < K
    · obtain ⟨g, rfl, hg, hr⟩ := HX.out (by intro e; rw [e] at HK; have := HK.out; simp at this; omega)
      have q := (hr k (by rw [← HK.out]; exact hlt)).1
      have hk0 : (0 : Int) ≤ (k : Int) := by omega
      have hk1 : (k : Int) < (K : Int) := by omega
      have HS := Lib.hid (fun hx => all_step H.out hx)
      have HNK := Lib.hid (fun h => HN.out k hlt h)
      have HI := Lib.hid (fun w => l1In_any (xs.getD k 0) lo hi w)
      generalize xs.getD k 0 = x at q HS HI HNK
      clear hr
      cases hc : inB x lo hi
      · rw [hc] at HI
        have HB := Lib.hid (HNK.out hc)
        clear hc
        go_wp2_with (go_at_call 33; refine (HI.out _).mono ?_; rintro e w' ⟨rfl, rfl⟩)
        go_ret
        exact ⟨ret_b HB.out.symm, rfl⟩
      · rw [hc] at HI
        have HB := Lib.hid (HS.out hc)
        clear hc
        go_wp2_with (go_at_call 33; refine (HI.out _).mono ?_; rintro e w' ⟨rfl, rfl⟩)
        exact ⟨⟨k + 1, hlt, by go_num, HB⟩, by simp [intOf]; omega⟩
    · obtain rfl : k = K := by omega
      go_wp2
      go_ret
      exact ⟨ret_b (HF.out H.out).symm, rfl⟩

theorem has_step {ws : List ByteArray} {s : ByteArray} {k : Nat} (h : ∀ j, j < k → sEq (ws.getD j ⟨#[]⟩) s = false) (hx : sEq (ws.getD k ⟨#[]⟩) s = false) : ∀ j, j < k + 1 → sEq (ws.getD j ⟨#[]⟩) s = false := by
  intro j hj
  by_cases e : j = k
  · subst e; exact hx
  · exact h j (by omega)
theorem has_none {ws : List ByteArray} {s : ByteArray} (h : ∀ j, j < ws.length → sEq (ws.getD j ⟨#[]⟩) s = false) : ws.any (fun y => sEq y s) = false := by
  rw [List.any_eq_false]
  intro x hx
  obtain ⟨j, hj, rfl⟩ := List.getElem_of_mem hx
  have := h j hj
  simp [List.getD, hj] at this
  simp [this]
theorem has_yes {ws : List ByteArray} {s : ByteArray} {j : Nat} (hj : j < ws.length) (h : sEq (ws.getD j ⟨#[]⟩) s = true) : ws.any (fun y => sEq y s) = true := by
  rw [List.any_eq_true]
  exact ⟨ws.getD j ⟨#[]⟩, by simp [List.getD, hj], h⟩

set_option maxRecDepth 100000 in
set_option maxHeartbeats 2000000 in
theorem l1HasS_any (ws : List ByteArray) (s : ByteArray) (v : Value) (w : World) (hl : ws.length ≤ 1048576) (h : StrsIn w v ws) :
    Calls Tryd.prog 42 #[v, .string s] w fun e w' => e = .returned (.bool (ws.any fun y => sEq y s)) ∧ w = w' := by
  obtain ⟨a, cap, rfl, hx⟩ := h
  have HF := Lib.hid (fun h => has_none (ws := ws) (s := s) h)
  have HN := Lib.hid (fun j hj h => has_yes (ws := ws) (s := s) (j := j) hj h)
  generalize (ws.any fun y => sEq y s) = ok at HF HN ⊢
  obtain ⟨K, hK⟩ : ∃ K, K = ws.length := ⟨_, rfl⟩
  rw [← hK] at hl HF HN ⊢
  have HK := Lib.hid hK
  have hK1 : (K : Int) ≤ 1048576 := by omega
  have HX := Lib.hid hx
  clear hx hK
  go_enter Tryd.func42, Tryd.ntmps42
  go_wp2_with fail
  go_loop [9] (fun i => ∃ k : Nat, k ≤ K ∧ i = .int .i64 k ∧ Hid (∀ j, j < k → sEq (ws.getD j ⟨#[]⟩) s = false)) (fun i => K - (intOf i).toNat)
  case atStart => exact ⟨0, Nat.zero_le _, rfl, Lib.hid (fun j hj => by omega)⟩
  case round =>
    obtain ⟨k, hk, rfl, H⟩ := hrel
    by_cases hlt : k < K
    · obtain ⟨g, rfl, hg, hr⟩ := HX.out (by intro e; rw [e] at HK; have := HK.out; simp at this; omega)
      have q := (hr k (by rw [← HK.out]; exact hlt)).1
      have hk0 : (0 : Int) ≤ (k : Int) := by omega
      have hk1 : (k : Int) < (K : Int) := by omega
      have HS := Lib.hid (fun hx => has_step H.out hx)
      have HNK := Lib.hid (fun h => HN.out k hlt h)
      generalize ws.getD k ⟨#[]⟩ = x at q HS HNK
      clear hr
      cases hc : sEq x s
      · have HB := Lib.hid (HS.out hc)
        have hcc : (x.toList == s.toList) = false := hc
        clear hc
        go_wp2_with fail
        exact ⟨⟨k + 1, hlt, by go_num, HB⟩, by simp [intOf]; omega⟩
      · have HB := Lib.hid (HNK.out hc)
        have hcc : (x.toList == s.toList) = true := hc
        clear hc
        go_wp2_with fail
        go_ret
        exact ⟨ret_b HB.out.symm, rfl⟩
    · obtain rfl : k = K := by omega
      go_wp2
      go_ret
      exact ⟨ret_b (HF.out H.out).symm, rfl⟩
end Go.Proofs.YteekglabcimfpaaDoor
