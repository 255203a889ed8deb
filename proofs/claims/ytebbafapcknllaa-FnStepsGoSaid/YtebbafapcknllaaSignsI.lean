/-
  'SignsOf' of the program.
-/
import Derived.Test.YtebbafapcknllaaSigns
import Derived.WalkLawsBesides
namespace Go.Proofs.Ytebbafapcknllaa
open Go.RowKit
set_option linter.unusedVariables false

theorem info5 : (Try.prog.info? 5).map (fun i => (i.zero, i.size, i.bytes)) = some (some (.int .u8 0), 1, 1) := by kernel_rfl

/-- A row that was just made holds zeros. -/
theorem made_zero (z : Value) (n : Nat) {j : Nat} (h : j < n * 1) (hz : z.cells = #[z] := by rfl) : ((madeCells z.cells (n * 1)).toList)[j]? = some z := by
  rw [hz]
  simp [madeCells]
  exact ⟨j, List.getElem?_range (by omega), by rw [Nat.mod_one]; rfl⟩

set_option maxRecDepth 100000 in
set_option maxHeartbeats 2000000 in
theorem iSignsOf (t p n k : Int) (w : World) :
    Calls Try.prog 10 #[.agg #[.int .i64 t, .int .i64 p], .int .i64 n, .int .i64 k] w fun e w' => e = .returned (.tuple #[.string (sig t p n k), .bool (aft t p (nx t p) n k).2]) ∧ Below w.heap.size w w' := by
  by_cases ha : (aft t p (nx t p) n k).2 = true
  · obtain ⟨K, rfl, hK, hg, hn, hall, hask⟩ := aft_yes ha
    have hf : sig t p n K = bytesOf (sgL (nx t p) n K) := by rw [sig, if_pos ha]; rfl
    have HF := Lib.hid hf
    have HA := Lib.hid ha
    have hK2 : (K : Int) ≤ 1000 := by omega
    obtain ⟨i0, hi, hi0, hi1, hi2⟩ := info_parts info5
    clear hg hn hask ha hall hf
    go_enter Try.func10, Try.ntmps10
    go_wp2_with fail
    refine (path_yes t p n K _ HA.out).mono ?_
    rintro e w2 ⟨g, cap, rfl, hrow, hb2⟩
    have hbb := ((Below.refl _ w).alloc (Nat.le_refl _) _).trans (hb2.mono (by simp))
    have HR := Lib.hid hrow
    have hgl := hrow.lt.2
    clear hrow hb2
    go_wp2_with (at_make; refine wpList_make_full _ rfl _ _ 22 rfl w.heap.size 5 i0 (.int .u8 0) 1 Try.underlying22 hi hi0 hi1 .i64 .i64 K K K rfl rfl rfl rfl ?c1 ?c2 ?c3 ?_; rotate_right; intro w3 hown3 hgrow3)
    case c1 => rw [hi2]; omega
    case c2 => unfold maxLen; omega
    case c3 => exact hbb.size
    have hb3 : Below w2.heap.size w2 w3 := ⟨hgrow3.os, hgrow3.tape, hgrow3.output, hgrow3.size, fun k hk => hgrow3.block k hk (by simp)⟩
    have hz0 : ∀ j, j < K → w3.cell? ⟨w2.heap.size, j, none⟩ = some (.int .u8 0) := fun j hj => by
      rw [World.ownsRow.cellAt hown3 j (by omega)]
      exact made_zero _ _ (by omega)
    have hf0 : ∀ j, w3.frozen? ⟨w2.heap.size, j, none⟩ = false := fun j => World.ownsRow.frozenAt hown3 j
    have HZ := Lib.hid hz0
    have HFR := Lib.hid hf0
    have HB3 := Lib.hid hb3
    have hsz3 : w2.heap.size ≤ w3.heap.size := hgrow3.size
    clear hz0 hf0 hb3 hown3 hgrow3
    go_loopw [26] (fun i wr => ∃ j : Nat, j ≤ K ∧ i = .int .i64 j ∧ Below w2.heap.size w2 wr ∧ (∀ i, i < j → wr.cell? ⟨w2.heap.size, i, none⟩ = some (.int .u8 ((sgn (itr (nx t p) i n)).toNat : Int))) ∧ (∀ i, j ≤ i → i < K → wr.cell? ⟨w2.heap.size, i, none⟩ = some (.int .u8 0)) ∧ (∀ i, wr.frozen? ⟨w2.heap.size, i, none⟩ = false)) (fun i _ => K + 1 - (intOf i).toNat)
    case atStart => exact ⟨0, by omega, rfl, HB3.out, by simp, fun i _ hi => HZ.out i hi, HFR.out⟩
    case round =>
      obtain ⟨j, hj, rfl, hbr, h1, h2, h3⟩ := hrel
      by_cases hlt : j < K
      · have q : wr.cell? ⟨g, j, none⟩ = some (.int .i64 (itr (nx t p) j n)) := (hbr.cell (p := ⟨g, j, none⟩) hgl).trans (HR.out.cell (by omega))
        have qb := h2 j (Nat.le_refl j) hlt
        have qf := h3 j
        have hi1' : (j : Int) < (K : Int) := by omega
        have hi3 : (j : Int) < (K : Int) + 1 := by omega
        have H1 := Lib.hid h1
        have H2 := Lib.hid h2
        have H3 := Lib.hid h3
        obtain ⟨v, hv⟩ : ∃ v, v = itr (nx t p) j n := ⟨_, rfl⟩
        rw [← hv] at q
        have HV := Lib.hid hv
        clear h1 h2 h3 hv
        go_wp2_with (go_at_call 40; refine (signOf_any _ _).mono ?_; rintro e w' ⟨rfl, rfl⟩)
        refine ⟨⟨j + 1, hlt, by go_num, hbr.setCell (p := ⟨w2.heap.size, j, none⟩) (Nat.le_refl _) _, ?_, ?_, ?_⟩, by simp [intOf]; omega⟩
        · intro i hi
          by_cases e : i = j
          · subst e; rw [← HV.out]; exact World.cell?_setCell_same' _ _ _ (by rw [qb]; rfl)
          · exact (World.cell?_setCell_other _ _ _ _ (by simp; try omega)).trans (H1.out i (by omega))
        · intro i hi hi2
          exact (World.cell?_setCell_other _ _ _ _ (by simp; try omega)).trans (H2.out i (by omega) hi2)
        · intro i
          rw [World.frozen?_setCell]
          exact H3.out i
      · obtain rfl : j = K := by omega
        have hl := sgL_length (nx t p) n j
        have hconv : (convert 22 9 (.slice (some ⟨w2.heap.size, 0, none⟩) j j)).run Try.prog wr = .ok (.string (bytesOf (sgL (nx t p) n j))) wr := by
          have := run_convert_bytes_back (P := Try.prog) wr 22 9 5 ⟨w2.heap.size, 0, none⟩ j (sgL (nx t p) n j) Try.underlying22 Try.underlying5 Try.underlying9 (fun i hi => by
            rw [hl] at hi
            have e : (⟨w2.heap.size, 0, none⟩ : Addr).add i = ⟨w2.heap.size, i, none⟩ := by simp [Addr.add]; exact fun h => h.symm
            rw [e, h1 i hi]
            simp [sgL])
          rw [hl] at this
          exact this
        have hi1' : ¬ ((j : Int) < (j : Int)) := by omega
        have hbw := hbb.trans (hbr.mono hbb.size)
        clear h1 h2 h3 hl
        go_wp2
        go_ret2
        exact ⟨ret_str HF.out HA.out, hbw⟩
  · have ha' : (aft t p (nx t p) n k).2 = false := by simpa using ha
    have hf : sig t p n k = bytesOf [] := by rw [sig, if_neg ha]
    have HF := Lib.hid hf
    have HA := Lib.hid ha'
    clear hf ha ha'
    go_enter Try.func10, Try.ntmps10
    go_wp2_with fail
    refine (path_no t p n k _ HA.out).mono ?_
    rintro e w2 ⟨rfl, hb2⟩
    have hbb := ((Below.refl _ w).alloc (Nat.le_refl _) _).trans (hb2.mono (by simp))
    clear hb2
    go_wp2_with fail
    go_ret2
    exact ⟨ret_str HF.out HA.out, hbb⟩
end Go.Proofs.Ytebbafapcknllaa
