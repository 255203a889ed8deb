/-
  'cyTurn' of the model: a cycle from its least number on.
-/
import Derived.Test.YtlbiafeiedhhfaaDoorFindC
import Derived.Deep.AppendLies
import Derived.RegionTactic
import Derived.ChangeAlike
namespace Go.Proofs.YtlbiafeiedhhfaaDoor
open Go.RowKit
set_option linter.unusedVariables false

set_option maxRecDepth 100000 in
set_option maxHeartbeats 1000000 in
/-- 'mpFar' at a part of a slice. -/
theorem mpFar_off (a : Nat → Int) (K g off cap : Nat) (w : World) (hK : K ≤ 1000) (hc : ∀ j, j ≤ K → w.cell? ⟨g, off + j, none⟩ = some (.int .i64 (a j))) :
    Calls Tryd.prog 24 #[.slice (some ⟨g, off, none⟩) (K + 1) cap, .bool false] w fun e w' => e = .returned (.int .i64 (far false a K)) ∧ w = w' := by
  have HC := Lib.hid hc
  have hK2 : (K : Int) ≤ 1000 := by omega
  clear hc
  go_enter Tryd.func24, Tryd.ntmps24
  go_wp2_with fail
  go_loop [5, 10] (fun b i => ∃ j : Nat, j ≤ K + 1 ∧ i = .int .i64 j ∧ b = .int .i64 (far false a (j - 1))) (fun _ i => K + 1 - (intOf i).toNat)
  case atStart => exact ⟨0, by omega, rfl, rfl⟩
  case round =>
    obtain ⟨j, hj, rfl, rfl⟩ := hrel
    obtain ⟨b, hb⟩ : ∃ b, b = far false a (j - 1) := ⟨_, rfl⟩
    rw [← hb]
    have HB := Lib.hid hb
    have hbl : b ≤ K := by have := far_le false a (j - 1); omega
    clear hb
    by_cases hlt : j < K + 1
    · have q := HC.out j (by omega)
      have qb := HC.out b hbl
      have hi1 : (j : Int) < (K : Int) + 1 := by omega
      have hi2 : (b : Int) < (K : Int) + 1 := by omega
      have hst : far false a j = if a j < a b then j else b := by
        cases j with
        | zero =>
          have hb0 : b = 0 := HB.out
          rw [hb0]; simp [far]
        | succ j => rw [far, HB.out, bet]; simp
      by_cases hc : a j < a b
      · have hst' : far false a j = j := by rw [hst, if_pos hc]
        have HST := Lib.hid hst'
        clear hst hst'
        go_wp2
        exact ⟨⟨j + 1, hlt, by go_num, by rw [Nat.add_sub_cancel, HST.out]⟩, by simp [intOf]; omega⟩
      · have hst' : far false a j = b := by rw [hst, if_neg hc]
        have HST := Lib.hid hst'
        clear hst hst'
        go_wp2
        exact ⟨⟨j + 1, hlt, by go_num, by rw [Nat.add_sub_cancel, HST.out]⟩, by simp [intOf]; omega⟩
    · obtain rfl : j = K + 1 := by omega
      have hb' : b = far false a K := by rw [HB.out, Nat.add_sub_cancel]
      have HB' := Lib.hid hb'
      have hi1 : ¬ ((K : Int) + 1 < (K : Int) + 1) := by omega
      clear hb'
      go_wp2
      go_ret
      exact ⟨ret_int (by rw [HB'.out]), rfl⟩

theorem addr_add (g off j : Nat) : (⟨g, off, none⟩ : Addr).add j = ⟨g, off + j, none⟩ := by
  unfold Addr.add
  split
  · simp_all
  · rfl
/-- A part of a slice: its cells. -/
def PartAt (w : World) (g off : Nat) (xs : List Int) : Prop := ∀ j u, (xs.map (Value.int .i64))[j]? = some u → w.cell? ((⟨g, off, none⟩ : Addr).add j) = some u
theorem ints_one (xs : List Int) : ∀ u ∈ xs.map (Value.int .i64), u.oneCell' = true := by
  intro u hu
  obtain ⟨x, _, rfl⟩ := List.mem_map.1 hu
  simp [Value.oneCell']

set_option maxRecDepth 100000 in
set_option maxHeartbeats 1000000 in
theorem l1Own_any (g off cap : Nat) (xs : List Int) (w : World) (hl : xs.length ≤ 1000) (hp : PartAt w g off xs) (hg : g < w.heap.size) :
    Calls Tryd.prog 25 #[.slice (some ⟨g, off, none⟩) xs.length cap] w fun e w' => ∃ v, e = .returned v ∧ IntsAt w' w.heap.size v xs ∧ Below w.heap.size w w' := by
  obtain ⟨i0, hi, hi0, hi1, hi2⟩ := info_parts info3
  have HP : Hid (PartAt (w.alloc (.cells #[] 3)) g off xs) := Lib.hid (fun j u hu => by rw [addr_add]; exact (kept_cell ((Below.refl _ w).alloc (Nat.le_refl _) _) hg (by
    have h := hp j u hu
    rw [addr_add] at h
    exact h)))
  have hown0 : (w.alloc (Obj.cells #[] 3)).ownsRow w.heap.size 3 1 (.slice (some ⟨w.heap.size, 0, none⟩) 0 0) 0 [] := by
    have := World.ownsRow_lit (base := w.heap.size) (e := 3) (size := 1) w #[] 0 (by simp) (by unfold maxLen; omega) (by simp)
    simpa using this
  have HO := Lib.hid hown0
  clear hp hown0
  go_enter Tryd.func25, Tryd.ntmps25
  go_wp2_with (at_builtin; refine wpList_append_own _ rfl _ _ 29 rfl w.heap.size 3 i0 (.int .i64 0) 1 8 Tryd.underlying29 hi hi0 hi1 hi2 rfl (by decide) _ _ _ rfl HO.out ⟨g, off, none⟩ xs.length cap (xs.map (Value.int .i64)) rfl (by simp) HP.out (ints_one xs) (by unfold maxLen; omega) (by omega) (by simp) ?_; intro v' w3 hown3 hgrow _)
  go_ret
  rw [Nat.zero_add, List.nil_append] at hown3
  exact ⟨v', rfl, hown3, ((Below.refl _ w).alloc (Nat.le_refl _) _).grown hgrow (by simp) (fun k e => (HO.out.lt k e).1)⟩
end Go.Proofs.YtlbiafeiedhhfaaDoor
