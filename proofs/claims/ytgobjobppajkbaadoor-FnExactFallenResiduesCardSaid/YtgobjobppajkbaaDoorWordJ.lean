/-
  'WordOfResidue' of the program, 'WordOf' of both.
-/
import Derived.Test.YtgobjobppajkbaaDoorWordI
import Derived.Outline
import Derived.Deep.RegionWith
namespace Go.Proofs.YtgobjobppajkbaaDoor
open Go.RowKit
set_option linter.unusedVariables false

theorem tab_drew {w : World} (h : Tab w) : Tab w.drew := h
theorem info5w : (Tryd.prog.info? 5).map (fun i => (i.zero, i.size, i.bytes)) = some (some (.int .u8 0), 1, 1) := by kernel_rfl
/-- A row that was just made holds zeros. -/
theorem made_zero_w (z : Value) (n : Nat) {j : Nat} (h : j < n * 1) (hz : z.cells = #[z] := by rfl) : ((madeCells z.cells (n * 1)).toList)[j]? = some z := by
  rw [hz]
  simp [madeCells]
  exact ⟨j, List.getElem?_range (by omega), by rw [Nat.mod_one]; rfl⟩
theorem Touch.cell {lo hi : Nat} {A B : World} (h : Touch lo hi A B) {b o : Nat} (hb : b < A.heap.size) (hr : b < lo ∨ hi ≤ b) : B.cell? ⟨b, o, none⟩ = A.cell? ⟨b, o, none⟩ := World.cell?_of_block (a := ⟨b, o, none⟩) (h.block b hb hr)
theorem Touch.frozen {lo hi : Nat} {A B : World} (h : Touch lo hi A B) {b o : Nat} (hb : b < A.heap.size) (hr : b < lo ∨ hi ≤ b) : B.frozen? ⟨b, o, none⟩ = A.frozen? ⟨b, o, none⟩ := World.frozen?_of_block (a := ⟨b, o, none⟩) (h.block b hb hr)

theorem WalkAt.set {W : World} {b : Nat} {t p v : Int} (h : WalkAt W b t p v) {g o : Nat} {u : Value} (hne : b ≠ g) : WalkAt (W.setCell ⟨g, o, none⟩ u) b t p v := by
  have hc : ∀ o', (W.setCell ⟨g, o, none⟩ u).cell? ⟨b, o', none⟩ = W.cell? ⟨b, o', none⟩ := fun o' => World.cell?_setCell_other _ _ _ _ (by simp; try omega)
  exact ⟨(hc 0).trans h.c0, (hc 1).trans h.c1, (hc 2).trans h.c2, (World.frozen?_setCell ..).trans h.f0, (World.frozen?_setCell ..).trans h.f1, (World.frozen?_setCell ..).trans h.f2, by simpa using h.lt⟩

set_option maxRecDepth 100000 in
set_option maxHeartbeats 4000000 in
theorem iWordOfResidue_yes (t p r : Int) (K : Nat) (w : World) (htab : Tab w) (h : askR t p r K = true) :
    Calls Tryd.prog 78 #[.agg #[.int .i64 t, .int .i64 p], .int .i64 r, .int .i64 (K : Int)] w fun e w' => e = .returned (.tuple #[.string (wby (wrd t p r K)), .bool true]) ∧ Below w.heap.size w w' := by
  obtain ⟨hg, ⟨k0, k1⟩, r0, r1⟩ := askR_iff.1 h
  have hK : K ≤ 15 := by omega
  obtain ⟨pw1, pw0⟩ := pow2_le hK
  have hlt2 : r < 2 ^ K := by simpa using r1
  have HL := Lib.hid (fun w => isLength_any (K : Int) w)
  rw [show inB (K : Int) 0 15 = true by simp [inB]; omega] at HL
  have HM := Lib.hid (fun w => isMap_any t p w)
  rw [hg] at HM
  have HT := Lib.hid htab
  have HG := Lib.hid hg
  have HS := Lib.hid (fun w => signsFrom_any t p r w)
  have hd1 : decide (r < 0) = false := by simpa using r0
  have hd2 : decide ((2 : Int) ^ K ≤ r) = false := by simpa using hlt2
  clear h hg htab r1
  go_enter Tryd.func78, Tryd.ntmps78
  go_wp2_with fail
  refine (HM.out _).mono ?_
  rintro e w1 ⟨rfl, hb1⟩
  obtain ⟨c0, c1, hz, hb⟩ := map_block hb1
  have q := tab_at (tab_below HT.out hb (Nat.le_refl _)) hK
  have hki : (K : Int) < 16 := by omega
  have hki2 : K < 16 := by omega
  clear hb1
  go_wp2_with (go_at_call 110; refine (HL.out _).mono ?_; rintro e w' ⟨rfl, rfl⟩)
  refine (HS.out _).mono ?_
  rintro e w2 ⟨rfl, hwk, hb2⟩
  have HWK := Lib.hid hwk
  have HB2 := Lib.hid (hb.trans (hb2.mono (Nat.le_of_lt hz)))
  clear hwk hb2 hb c0 c1 q
  obtain ⟨i0, hi, hi0, hi1, hi2⟩ := info_parts info5w
  have hlw2 := HWK.out.lt
  go_wp2_with (at_make; refine wpList_make_full _ rfl _ _ 128 rfl w.heap.size 5 i0 (.int .u8 0) 1 Tryd.underlying128 hi hi0 hi1 .i64 .i64 K K K rfl rfl rfl rfl ?c1 ?c2 ?c3 ?_; rotate_right; intro w3 hown3 hgrow3)
  case c1 => rw [hi2]; omega
  case c2 => unfold maxLen; omega
  case c3 => exact HB2.out.size
  have hb3 : Below w2.heap.size w2 w3 := ⟨hgrow3.os, hgrow3.tape, hgrow3.output, hgrow3.size, fun k hk => hgrow3.block k hk (by simp)⟩
  have hz0 : ∀ j, j < K → w3.cell? ⟨w2.heap.size, j, none⟩ = some (.int .u8 0) := fun j hj => by
    rw [World.ownsRow.cellAt hown3 j (by omega)]
    exact made_zero_w _ _ (by omega)
  have hf0 : ∀ j, w3.frozen? ⟨w2.heap.size, j, none⟩ = false := fun j => World.ownsRow.frozenAt hown3 j
  have hl3 : w2.heap.size < w3.heap.size := (World.ownsRow.lt hown3 w2.heap.size rfl).2
  have HZ := Lib.hid hz0
  have HFR := Lib.hid hf0
  have HB3 := Lib.hid hb3
  have HWK3 := Lib.hid (HWK.out.below hb3 hlw2)
  clear hz0 hf0 hb3 hown3 hgrow3
  go_wp2_with fail
  go_loopw [37] (fun i wr => ∃ j : Nat, j ≤ K ∧ i = .int .i64 j ∧ WalkAt wr (w1.heap.size + 1) t p (itr (sx t p) j r) ∧ (∀ i, i < j → wr.cell? ⟨w2.heap.size, i, none⟩ = some (.int .u8 ((par (itr (sx t p) i r)).toNat : Int))) ∧ (∀ i, j ≤ i → i < K → wr.cell? ⟨w2.heap.size, i, none⟩ = some (.int .u8 0)) ∧ (∀ i, wr.frozen? ⟨w2.heap.size, i, none⟩ = false) ∧ Below w.heap.size w wr ∧ w2.heap.size < wr.heap.size) (fun i _ => K - (intOf i).toNat)
  case atStart => exact ⟨0, by omega, rfl, HWK3.out, by simp, fun i _ hi => HZ.out i hi, HFR.out, HB2.out.trans (HB3.out.mono HB2.out.size), hl3⟩
  case round =>
    obtain ⟨j, hj, rfl, hwk, h1, h2, h3, hbr, hlr⟩ := hrel
    by_cases hlt : j < K
    · have hsm := itr_small HG.out (t := t) (p := p) (n := r) (k := j) (by omega) r0 (by omega)
      have his := itr_succ (sx t p) j r
      obtain ⟨v, hv⟩ : ∃ v, v = itr (sx t p) j r := ⟨_, rfl⟩
      rw [← hv] at hwk hsm his
      have HN := Lib.hid (signsFrom_next t p v (w1.heap.size + 1) wr HG.out (by omega) (by omega) hwk)
      have hjK : (j : Int) < (K : Int) := by omega
      have H1 := Lib.hid h1
      have H2 := Lib.hid h2
      have H3 := Lib.hid h3
      have HV := Lib.hid hv
      have HIS := Lib.hid his
      have HBR := Lib.hid hbr
      clear h1 h2 h3 hwk hv his hbr
      go_wp2_with fail
      refine HN.out.mono ?_
      rintro e w4 ⟨rfl, hwk4, ht4⟩
      have qz : w4.cell? ⟨w2.heap.size, j, none⟩ = some (.int .u8 0) := (ht4.cell hlr (by omega)).trans (H2.out j (Nat.le_refl _) hlt)
      have qf : w4.frozen? ⟨w2.heap.size, j, none⟩ = false := (ht4.frozen hlr (by omega)).trans (H3.out j)
      have HWK4 := Lib.hid hwk4
      have HT4 := Lib.hid ht4
      have hl4 := Nat.lt_of_lt_of_le hlr ht4.size
      clear hwk4 ht4
      go_wp2_with fail
      refine ⟨⟨j + 1, hlt, by go_num, ?_, ?_, ?_, ?_, ?_, by simpa using hl4⟩, by simp [intOf]; omega⟩
      · rw [HIS.out]
        exact HWK4.out.set (by omega)
      · intro i hi
        by_cases e : i = j
        · subst e; rw [← HV.out]; exact World.cell?_setCell_same' _ _ _ (by rw [qz]; rfl)
        · exact (World.cell?_setCell_other _ _ _ _ (by simp; try omega)).trans ((HT4.out.cell hlr (by omega)).trans (H1.out i (by omega)))
      · intro i hi hi2
        exact (World.cell?_setCell_other _ _ _ _ (by simp; try omega)).trans ((HT4.out.cell hlr (by omega)).trans (H2.out i (by omega) hi2))
      · intro i
        rw [World.frozen?_setCell]
        exact (HT4.out.frozen hlr (by omega)).trans (H3.out i)
      · exact (HBR.out.trans (HT4.out.below (by omega) HBR.out.size)).setCell (p := ⟨w2.heap.size, j, none⟩) (by have := HB2.out.size; simpa using this) _
    · obtain rfl : j = K := by omega
      have hl := wrd_length t p r j
      have hconv : (convert 128 9 (.slice (some ⟨w2.heap.size, 0, none⟩) j j)).run Tryd.prog wr = .ok (.string (wby (wrd t p r j))) wr := by
        have := run_convert_bytes_back (P := Tryd.prog) wr 128 9 5 ⟨w2.heap.size, 0, none⟩ j (wrd t p r j) Tryd.underlying128 Tryd.underlying5 Tryd.underlying9 (fun i hi => by
          rw [hl] at hi
          have e : (⟨w2.heap.size, 0, none⟩ : Addr).add i = ⟨w2.heap.size, i, none⟩ := by simp [Addr.add]; exact fun h => h.symm
          rw [e, h1 i hi]
          simp [wrd])
        rw [hl] at this
        exact this
      have hjj : ¬ ((j : Int) < (j : Int)) := by omega
      clear h1 h2 h3 hl hwk
      go_wp2_with fail
      go_ret2
      exact ⟨rfl, hbr⟩

theorem iWordOfResidue_no (t p r k : Int) (w : World) (htab : Tab w) (h : askR t p r k = false) :
    Calls Tryd.prog 78 #[.agg #[.int .i64 t, .int .i64 p], .int .i64 r, .int .i64 k] w fun e w' => e = .returned (.tuple #[.string (wby []), .bool false]) ∧ Below w.heap.size w w' := by
  have HM := Lib.hid (fun w => isMap_any t p w)
  have HT := Lib.hid htab
  cases hg : goodB t p
  · rw [hg] at HM
    clear h hg htab
    go_enter Tryd.func78, Tryd.ntmps78
    go_wp2_with fail
    refine (HM.out _).mono ?_
    rintro e w1 ⟨rfl, hb1⟩
    obtain ⟨c0, c1, hz, hb⟩ := map_block hb1
    clear hb1
    go_wp2_with fail
    go_ret2
    exact ⟨rfl, hb⟩
  · rw [hg] at HM
    have HL := Lib.hid (fun w => isLength_any k w)
    cases hk : inB k 0 15
    · rw [hk] at HL
      clear h hg htab hk
      go_enter Tryd.func78, Tryd.ntmps78
      go_wp2_with fail
      refine (HM.out _).mono ?_
      rintro e w1 ⟨rfl, hb1⟩
      obtain ⟨c0, c1, hz, hb⟩ := map_block hb1
      clear hb1
      go_wp2_with (go_at_call 110; refine (HL.out _).mono ?_; rintro e w' ⟨rfl, rfl⟩)
      go_ret2
      exact ⟨rfl, hb⟩
    · rw [hk] at HL
      obtain ⟨k0, k1⟩ : 0 ≤ k ∧ k ≤ 15 := by simpa [inB] using hk
      obtain ⟨K, rfl⟩ : ∃ K : Nat, k = K := ⟨k.toNat, by omega⟩
      have hnr : ¬ (0 ≤ r ∧ r < 2 ^ K) := fun hr => by
        have := askR_iff.2 ⟨hg, ⟨k0, k1⟩, hr.1, by simpa using hr.2⟩
        rw [h] at this; cases this
      by_cases r0 : 0 ≤ r
      · have hd1 : decide (r < 0) = false := by simpa using r0
        have hd2 : decide ((2 : Int) ^ K ≤ r) = true := by simp; omega
        have hK : K ≤ 15 := by omega
        have hki : (K : Int) < 16 := by omega
        have hki2 : K < 16 := by omega
        clear h hg htab hk hnr
        go_enter Tryd.func78, Tryd.ntmps78
        go_wp2_with fail
        refine (HM.out _).mono ?_
        rintro e w1 ⟨rfl, hb1⟩
        obtain ⟨c0, c1, hz, hb⟩ := map_block hb1
        have q := tab_at (tab_below HT.out hb (Nat.le_refl _)) hK
        clear hb1
        go_wp2_with (go_at_call 110; refine (HL.out _).mono ?_; rintro e w' ⟨rfl, rfl⟩)
        go_ret2
        exact ⟨rfl, hb⟩
      · have hd1 : decide (r < 0) = true := by simpa using r0
        clear h hg htab hk hnr
        go_enter Tryd.func78, Tryd.ntmps78
        go_wp2_with fail
        refine (HM.out _).mono ?_
        rintro e w1 ⟨rfl, hb1⟩
        obtain ⟨c0, c1, hz, hb⟩ := map_block hb1
        clear hb1
        go_wp2_with (go_at_call 110; refine (HL.out _).mono ?_; rintro e w' ⟨rfl, rfl⟩)
        go_ret2
        exact ⟨rfl, hb⟩

theorem iWordOfResidue (t p r k : Int) (w : World) (htab : Tab w) :
    Calls Tryd.prog 78 #[.agg #[.int .i64 t, .int .i64 p], .int .i64 r, .int .i64 k] w fun e w' => e = .returned (.tuple #[.string (wor t p r k), .bool (askR t p r k)]) ∧ Below w.heap.size w w' := by
  cases h : askR t p r k
  · rw [show wor t p r k = wby [] by rw [wor, if_neg (by simp [h])]]
    exact iWordOfResidue_no t p r k w htab h
  · obtain ⟨_, ⟨k0, k1⟩, _, _⟩ := askR_iff.1 h
    obtain ⟨K, rfl⟩ : ∃ K : Nat, k = K := ⟨k.toNat, by omega⟩
    rw [show wor t p r K = wby (wrd t p r K) by rw [wor, if_pos h]; rfl]
    exact iWordOfResidue_yes t p r K w htab h

/-- Are there a map, a number and a length? -/
def askL (t p n k : Int) : Bool := goodB t p && numB n && inB k 0 15
/-- What WordOf comes to. -/
def wof (t p n k : Int) : ByteArray := if askL t p n k = true then wby (wrd t p n k.toNat) else wby []

end Go.Proofs.YtgobjobppajkbaaDoor
