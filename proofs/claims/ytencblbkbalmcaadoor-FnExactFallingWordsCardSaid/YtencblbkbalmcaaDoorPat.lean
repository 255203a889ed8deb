/-
  'signsOfPattern' of the program.
-/
import Derived.Test.YtencblbkbalmcaaDoorWordJ
import Derived.Test.YtencblbkbalmcaaDoorPatM
namespace Go.Proofs.YtencblbkbalmcaaDoor
open Go.RowKit
set_option linter.unusedVariables false

theorem shr_cast (x n : Nat) : ((x / 2 ^ n : Nat) : Int) = (x : Int) / 2 ^ n := by simp

set_option maxRecDepth 100000 in
set_option maxHeartbeats 4000000 in
theorem signsOfPattern_any (x L : Nat) (w : World) (hL : L ≤ 15) (hx : x ≤ 32768) :
    Calls Tryd.prog 45 #[.int .i64 (x : Int), .int .i64 (L : Int)] w fun e w' => e = .returned (.string (wby (patP x L L))) ∧ Below w.heap.size w w' := by
  have hL1 : (L : Int) ≤ 15 := by omega
  have hx1 : (x : Int) ≤ 32768 := by omega
  obtain ⟨i0, hi, hi0, hi1, hi2⟩ := info_parts info5w
  go_enter Tryd.func45, Tryd.ntmps45
  go_wp2_with (at_make; refine wpList_make_full _ rfl _ _ 75 rfl w.heap.size 5 i0 (.int .u8 0) 1 Tryd.underlying75 hi hi0 hi1 .i64 .i64 L L L rfl rfl rfl rfl ?c1 ?c2 ?c3 ?_; rotate_right; intro w3 hown3 hgrow3)
  case c1 => rw [hi2]; omega
  case c2 => unfold maxLen; omega
  case c3 => exact Nat.le_refl _
  have hb3 : Below w.heap.size w w3 := ⟨hgrow3.os, hgrow3.tape, hgrow3.output, hgrow3.size, fun k hk => hgrow3.block k hk (by simp)⟩
  have hz0 : ∀ j, j < L → w3.cell? ⟨w.heap.size, j, none⟩ = some (.int .u8 0) := fun j hj => by
    rw [World.ownsRow.cellAt hown3 j (by omega)]
    exact made_zero_w _ _ (by omega)
  have hf0 : ∀ j, w3.frozen? ⟨w.heap.size, j, none⟩ = false := fun j => World.ownsRow.frozenAt hown3 j
  have HZ := Lib.hid hz0
  have HFR := Lib.hid hf0
  have HB3 := Lib.hid hb3
  clear hz0 hf0 hb3 hown3 hgrow3
  go_loopw [11] (fun i wr => ∃ j : Nat, j ≤ L ∧ i = .int .i64 j ∧ (∀ i, i < j → wr.cell? ⟨w.heap.size, i, none⟩ = some (.int .u8 ((par ((x / 2 ^ (L - 1 - i) : Nat) : Int)).toNat : Int))) ∧ (∀ i, j ≤ i → i < L → wr.cell? ⟨w.heap.size, i, none⟩ = some (.int .u8 0)) ∧ (∀ i, wr.frozen? ⟨w.heap.size, i, none⟩ = false) ∧ Below w.heap.size w wr) (fun i _ => L - (intOf i).toNat)
  case atStart => exact ⟨0, by omega, rfl, by simp, fun i _ hi => HZ.out i hi, HFR.out, HB3.out⟩
  case round =>
    obtain ⟨j, hj, rfl, h1, h2, h3, hbr⟩ := hrel
    by_cases hlt : j < L
    · have hjL : (j : Int) < (L : Int) := by omega
      obtain ⟨n, hn⟩ : ∃ n : Nat, n = L - 1 - j := ⟨_, rfl⟩
      have e1 : (L : Int) - 1 - (j : Int) = (n : Int) := by omega
      have hn15 : (n : Int) ≤ 15 := by omega
      have HS := Lib.hid (fun w => signOf_w ((x / 2 ^ n : Nat) : Int) w)
      rw [shr_cast] at HS
      have HV : Hid (par ((x / 2 ^ (L - 1 - j) : Nat) : Int) = par ((x : Int) / 2 ^ n)) := Lib.hid (by rw [← hn, shr_cast])
      have qz := h2 j (Nat.le_refl j) hlt
      have qf := h3 j
      have H1 := Lib.hid h1
      have H2 := Lib.hid h2
      have H3 := Lib.hid h3
      have HBR := Lib.hid hbr
      clear h1 h2 h3 hbr hn
      go_wp2_with fail
      refine (HS.out _).mono ?_
      rintro e w' ⟨rfl, rfl⟩
      go_wp2_with fail
      clear e1
      refine ⟨⟨j + 1, hlt, by go_num, ?_, ?_, ?_, HBR.out.setCell (p := ⟨w.heap.size, j, none⟩) (Nat.le_refl _) _⟩, by simp [intOf]; omega⟩
      · intro i hi
        by_cases e : i = j
        · subst e; rw [HV.out]; exact World.cell?_setCell_same' _ _ _ (by rw [qz]; rfl)
        · exact (World.cell?_setCell_other _ _ _ _ (by simp; try omega)).trans (H1.out i (by omega))
      · intro i hi hi2
        exact (World.cell?_setCell_other _ _ _ _ (by simp; try omega)).trans (H2.out i (by omega) hi2)
      · intro i
        rw [World.frozen?_setCell]
        exact H3.out i
    · obtain rfl : j = L := by omega
      have hl := patP_length x j j
      have hconv : (convert 75 9 (.slice (some ⟨w.heap.size, 0, none⟩) j j)).run Tryd.prog wr = .ok (.string (wby (patP x j j))) wr := by
        have := run_convert_bytes_back (P := Tryd.prog) wr 75 9 5 ⟨w.heap.size, 0, none⟩ j (patP x j j) Tryd.underlying75 Tryd.underlying5 Tryd.underlying9 (fun i hi => by
          rw [hl] at hi
          have e : (⟨w.heap.size, 0, none⟩ : Addr).add i = ⟨w.heap.size, i, none⟩ := by simp [Addr.add]; exact fun h => h.symm
          rw [e, h1 i hi]
          simp [patP])
        rw [hl] at this
        exact this
      have hjj : ¬ ((j : Int) < (j : Int)) := by omega
      clear h1 h2 h3 hl
      go_wp2_with fail
      go_ret
      exact ⟨rfl, hbr⟩
end Go.Proofs.YtencblbkbalmcaaDoor
