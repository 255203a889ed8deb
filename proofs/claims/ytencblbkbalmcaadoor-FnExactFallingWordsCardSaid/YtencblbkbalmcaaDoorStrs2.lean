/-
  'eqStringS', 'markStringS', 'heldStringS' of the laws.
-/
import Derived.Test.YtencblbkbalmcaaDoorStrs
import Derived.BigQuiet
import Derived.Deep.QuietTactic
namespace Go.Proofs.YtencblbkbalmcaaDoor
open Go.RowKit
set_option linter.unusedVariables false

set_option maxRecDepth 100000 in
set_option maxHeartbeats 1000000 in
theorem eqStrS_row (xs : List ByteArray) (g cap g' cap' : Nat) (w : World) (hg : g < w.heap.size) (hg' : g' < w.heap.size) (hl : xs.length ≤ 900) (h : StrRow w g xs) (h' : StrRow w g' xs) :
    Calls Tryd.prog 16 #[.slice (some ⟨g, 0, none⟩) xs.length cap, .slice (some ⟨g', 0, none⟩) xs.length cap'] w fun e w' => e = .returned (.bool true) ∧ Below w.heap.size w w' := by
  obtain ⟨L, hL⟩ : ∃ L, L = xs.length := ⟨_, rfl⟩
  rw [← hL] at hl ⊢
  have HL := Lib.hid hL
  have hl2 : (L : Int) ≤ 9223372036854775807 := by omega
  have H := Lib.hid h
  have H' := Lib.hid h'
  clear hL hl h h'
  go_enter Tryd.func16, Tryd.ntmps16
  go_wp2_with fail
  go_loopw [5] (fun i wr => ∃ k : Nat, k ≤ L ∧ i = .int .i64 k ∧ Below w.heap.size w wr) (fun i _ => L - (intOf i).toNat)
  case atStart => exact ⟨0, Nat.zero_le _, rfl, Below.refl _ _⟩
  case round =>
    obtain ⟨k, hk, rfl, hb⟩ := hrel
    by_cases hlt : k < L
    · have q : wr.cell? ⟨g, k, none⟩ = some (.string (xs.getD k ⟨#[]⟩)) := (hb.cell (p := ⟨g, k, none⟩) hg).trans (H.out k (by rw [← HL.out]; exact hlt)).1
      have q' : wr.cell? ⟨g', k, none⟩ = some (.string (xs.getD k ⟨#[]⟩)) := (hb.cell (p := ⟨g', k, none⟩) hg').trans (H'.out k (by rw [← HL.out]; exact hlt)).1
      generalize xs.getD k ⟨#[]⟩ = v at q q'
      have hk0 : (0 : Int) ≤ (k : Int) := by omega
      have hk1 : (k : Int) < (L : Int) := by omega
      go_wp2
      go_quiet (fail)
      go_wp2
      exact ⟨⟨k + 1, hlt, by go_num, below_drewN hb _⟩, by simp [intOf]; omega⟩
    · go_wp2
      go_ret
      exact ⟨rfl, hb⟩

/-- The marks 1, 2, .. in a row. -/
def markedS (L : Nat) : List ByteArray := (List.range L).map fun (i : Nat) => mkT (i + 1)
theorem markedS_at {L j : Nat} (h : j < L) : (markedS L).getD j ⟨#[]⟩ = mkT (j + 1) := by simp [markedS, List.getD_eq_getElem?_getD, h]

set_option maxRecDepth 100000 in
set_option maxHeartbeats 1000000 in
theorem markStrS_row (xs : List ByteArray) (g cap : Nat) (w : World) (hg : g < w.heap.size) (hl : xs.length ≤ 900) (h : StrRow w g xs) :
    Calls Tryd.prog 17 #[.slice (some ⟨g, 0, none⟩) xs.length cap, .int .i64 1] w fun e w' => e = .returned (.int .i64 ((xs.length : Int) + 1)) ∧ Touch g (g + 1) w w' ∧ StrRow w' g (markedS xs.length) := by
  obtain ⟨L, hL⟩ : ∃ L, L = xs.length := ⟨_, rfl⟩
  rw [← hL] at hl ⊢
  have HL := Lib.hid hL
  have hl2 : (L : Int) + 1 ≤ 901 := by omega
  have H := Lib.hid h
  clear hL h
  go_enter Tryd.func17, Tryd.ntmps17
  go_wp2_with fail
  go_loopw [1, 5] (fun m i wr => ∃ k : Nat, k ≤ L ∧ i = .int .i64 k ∧ m = .int .i64 ((k : Int) + 1) ∧ Touch g (g + 1) w wr ∧ (∀ j, j < k → wr.cell? ⟨g, j, none⟩ = some (.string (mkT (j + 1)))) ∧ (∀ j, k ≤ j → j < L → wr.cell? ⟨g, j, none⟩ = some (.string (xs.getD j ⟨#[]⟩))) ∧ (∀ j, j < L → wr.frozen? ⟨g, j, none⟩ = false)) (fun _ i _ => L - (intOf i).toNat)
  case atStart => exact ⟨0, Nat.zero_le _, rfl, by simp, Touch.refl _ _ _, by simp, fun j _ hj => (H.out j (by rw [← HL.out]; exact hj)).1, fun j hj => (H.out j (by rw [← HL.out]; exact hj)).2⟩
  case round =>
    obtain ⟨k, hk, rfl, rfl, hb, h1, h2, h3⟩ := hrel
    by_cases hlt : k < L
    · have hgw : g < wr.heap.size := Nat.lt_of_lt_of_le hg hb.size
      have H1 := Lib.hid h1
      have H2 := Lib.hid h2
      have H3 := Lib.hid h3
      have HT := Lib.hid hb
      have HM := Lib.hid (fun w => markText_any (k + 1) (by omega) (by omega) w)
      clear h1 h2 h3 hb
      go_wp2_with fail
      refine (HM.out _).mono ?_
      rintro e w2 ⟨rfl, hb2⟩
      have hc : ∀ j, w2.cell? ⟨g, j, none⟩ = wr.cell? ⟨g, j, none⟩ := fun j => hb2.cell (p := ⟨g, j, none⟩) hgw
      have hf : ∀ j, w2.frozen? ⟨g, j, none⟩ = wr.frozen? ⟨g, j, none⟩ := fun j => hb2.frozen (p := ⟨g, j, none⟩) hgw
      have q : w2.cell? ⟨g, k, none⟩ = some (.string (xs.getD k ⟨#[]⟩)) := (hc k).trans (H2.out k (Nat.le_refl k) hlt)
      have qf : w2.frozen? ⟨g, k, none⟩ = false := (hf k).trans (H3.out k hlt)
      have HC := Lib.hid hc
      have HF := Lib.hid hf
      have HB2 := Lib.hid (HT.out.trans (Touch.of_below hb2))
      clear hc hf hb2
      go_wp2_with fail
      refine ⟨⟨k + 1, hlt, by go_num, by go_num, HB2.out.setCell (p := ⟨g, k, none⟩) (Nat.le_refl _) (Nat.lt_succ_self _) _, ?_, ?_, ?_⟩, by simp [intOf]; omega⟩
      · intro j hj
        by_cases e : j = k
        · subst e; exact World.cell?_setCell_same' _ _ _ (by rw [q]; rfl)
        · exact (World.cell?_setCell_other _ _ _ _ (by simp; try omega)).trans ((HC.out j).trans (H1.out j (by omega)))
      · intro j hj hj2
        exact (World.cell?_setCell_other _ _ _ _ (by simp; try omega)).trans ((HC.out j).trans (H2.out j (by omega) hj2))
      · intro j hj
        rw [World.frozen?_setCell]
        exact (HF.out j).trans (H3.out j hj)
    · obtain rfl : k = L := by omega
      have hrow : StrRow wr g (markedS k) := by
        intro j hj
        have hj' : j < k := by simpa [markedS] using hj
        refine ⟨?_, h3 j hj'⟩
        rw [h1 j hj', markedS_at hj']
      have HROW := Lib.hid hrow
      clear h1 h2 h3 hrow
      go_wp2_with fail
      go_ret
      exact ⟨rfl, hb, HROW.out⟩

set_option maxRecDepth 100000 in
set_option maxHeartbeats 1000000 in
theorem heldStrS_row (L g cap : Nat) (w : World) (hg : g < w.heap.size) (hl : L ≤ 900) (h : StrRow w g (markedS L)) :
    Calls Tryd.prog 18 #[.slice (some ⟨g, 0, none⟩) L cap, .int .i64 1] w fun e w' => e = .returned (.int .i64 ((L : Int) + 1)) ∧ Below w.heap.size w w' := by
  have hl2 : (L : Int) + 1 ≤ 901 := by omega
  have H : Hid (∀ j, j < L → w.cell? ⟨g, j, none⟩ = some (.string (mkT (j + 1)))) := by
    refine Lib.hid fun j hj => ?_
    rw [(h j (by simpa [markedS] using hj)).1, markedS_at hj]
  clear h
  go_enter Tryd.func18, Tryd.ntmps18
  go_wp2_with fail
  go_loopw [1, 5] (fun m i wr => ∃ k : Nat, k ≤ L ∧ i = .int .i64 k ∧ m = .int .i64 ((k : Int) + 1) ∧ Below w.heap.size w wr) (fun _ i _ => L - (intOf i).toNat)
  case atStart => exact ⟨0, Nat.zero_le _, rfl, by simp, Below.refl _ _⟩
  case round =>
    obtain ⟨k, hk, rfl, rfl, hb⟩ := hrel
    have HB := Lib.hid hb
    have hsz := hb.size
    by_cases hlt : k < L
    · have q : wr.cell? ⟨g, k, none⟩ = some (.string (mkT (k + 1))) := (hb.cell (p := ⟨g, k, none⟩) hg).trans (H.out k hlt)
      have hgw : g < wr.heap.size := Nat.lt_of_lt_of_le hg hb.size
      have HM := Lib.hid (fun w => markText_any (k + 1) (by omega) (by omega) w)
      have hk0 : (0 : Int) ≤ (k : Int) := by omega
      have hk1 : (k : Int) < (L : Int) := by omega
      generalize mkT (k + 1) = v at q HM
      clear hb
      go_wp2_with fail
      go_region_with (go_at_call 46; refine (HM.out _).mono ?_; rintro e w2 ⟨rfl, hb2⟩; have q2 := kept_cell hb2 (by first | exact hgw | simpa using hgw) q)
      all_goals
        go_wp2_with fail
        refine ⟨⟨k + 1, hlt, by go_num, by go_num, ?_⟩, by simp [intOf]; omega⟩
        first
          | exact HB.out.trans (hb2.mono hsz)
          | exact HB.out.drew.trans (hb2.mono hsz)
    · obtain rfl : k = L := by omega
      go_wp2_with fail
      go_ret
      exact ⟨rfl, HB.out⟩
end Go.Proofs.YtencblbkbalmcaaDoor
