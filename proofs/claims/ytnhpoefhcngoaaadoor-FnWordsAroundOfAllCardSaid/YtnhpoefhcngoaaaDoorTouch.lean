/-
  WHAT A CALL MAY TURN: some blocks, and what is new. No program.
  'WordOfResidue' of both, 'WordOf' of both.
  'WordOfResidue' of the program, 'WordOf' of both.
  'signsOfPattern' of the program.
-/
import Derived.Below
import Derived.Test.YtnhpoefhcngoaaaDoorWoOf
import Derived.WalkLawsBesides
import Derived.RegionTactic
import Derived.Outline
import Derived.Deep.RegionWith
import Derived.Test.YtnhpoefhcngoaaaDoorPowM
namespace Go.Proofs.YtnhpoefhcngoaaaDoor
open Go.RowKit
set_option linter.unusedVariables false

/-- Nothing has turned but, perhaps, the blocks lo to hi - 1, and what is new. -/
structure Touch (lo hi : Nat) (W W' : World) : Prop where
  os : W'.os = W.os
  tape : W'.tape = W.tape
  output : W'.output = W.output
  size : W.heap.size ≤ W'.heap.size
  block : ∀ k, k < W.heap.size → (k < lo ∨ hi ≤ k) → W'.heap[k]? = W.heap[k]?
theorem Touch.refl (lo hi : Nat) (W : World) : Touch lo hi W W := ⟨rfl, rfl, rfl, Nat.le_refl _, fun _ _ _ => rfl⟩
theorem Touch.trans {lo hi : Nat} {A B C : World} (h : Touch lo hi A B) (k : Touch lo hi B C) : Touch lo hi A C :=
  ⟨k.os.trans h.os, k.tape.trans h.tape, k.output.trans h.output, Nat.le_trans h.size k.size, fun i hi hr => (k.block i (Nat.lt_of_lt_of_le hi h.size) hr).trans (h.block i hi hr)⟩
theorem Touch.wider {lo hi lo' hi' : Nat} {A B : World} (h : Touch lo hi A B) (hl : lo' ≤ lo) (hh : hi ≤ hi') : Touch lo' hi' A B :=
  ⟨h.os, h.tape, h.output, h.size, fun k hk hr => h.block k hk (by omega)⟩
theorem Touch.of_below {lo hi : Nat} {A B : World} (h : Below A.heap.size A B) : Touch lo hi A B :=
  ⟨h.os, h.tape, h.output, h.size, fun k hk _ => h.block k hk⟩
theorem Touch.alloc {lo hi : Nat} {A B : World} (h : Touch lo hi A B) (o : Obj) : Touch lo hi A (B.alloc o) :=
  h.trans (Touch.of_below ((Below.refl _ B).alloc (Nat.le_refl _) o))
theorem Touch.setCell {lo hi : Nat} {A B : World} (h : Touch lo hi A B) {p : Addr} (h1 : lo ≤ p.block) (h2 : p.block < hi) (u : Value) : Touch lo hi A (B.setCell p u) :=
  h.trans ⟨rfl, rfl, rfl, by simp [World.setCell], fun k hk hr => Below.heap_setCell _ _ _ _ (by omega)⟩
theorem Touch.below {lo hi : Nat} {A B : World} (h : Touch lo hi A B) {n : Nat} (hn : n ≤ lo) (hs : n ≤ A.heap.size) : Below n A B :=
  ⟨h.os, h.tape, h.output, h.size, fun k hk => h.block k (by omega) (by omega)⟩
end Go.Proofs.YtnhpoefhcngoaaaDoor

namespace Go.Proofs.YtnhpoefhcngoaaaDoor
open Go.RowKit
set_option linter.unusedVariables false

theorem signOf_w (v : Int) (w : World) :
    Calls Tryd.prog 63 #[.int .i64 v] w fun e w' => e = .returned (.int .u8 ((par v).toNat : Int)) ∧ w = w' := by
  cases ho : oddB v
  · rw [par_even ho]
    go_enter Tryd.func63, Tryd.ntmps63
    go_wp2_with (go_at_call 48; refine (isOdd_any _ _).mono ?_; rintro e w' ⟨rfl, rfl⟩)
    go_ret
    exact ⟨rfl, rfl⟩
  · rw [par_odd ho]
    go_enter Tryd.func63, Tryd.ntmps63
    go_wp2_with (go_at_call 48; refine (isOdd_any _ _).mono ?_; rintro e w' ⟨rfl, rfl⟩)
    go_ret
    exact ⟨rfl, rfl⟩

/-- A walk in a block: its map and where it stands. -/
structure WalkAt (W : World) (b : Nat) (t p v : Int) : Prop where
  c0 : W.cell? ⟨b, 0, none⟩ = some (.int .i64 t)
  c1 : W.cell? ⟨b, 1, none⟩ = some (.int .i64 p)
  c2 : W.cell? ⟨b, 2, none⟩ = some (.int .i64 v)
  f0 : W.frozen? ⟨b, 0, none⟩ = false
  f1 : W.frozen? ⟨b, 1, none⟩ = false
  f2 : W.frozen? ⟨b, 2, none⟩ = false
  lt : b < W.heap.size
theorem WalkAt.below {W W' : World} {b B : Nat} {t p v : Int} (h : WalkAt W b t p v) (hb : Below B W W') (hB : b < B) : WalkAt W' b t p v :=
  ⟨(hb.cell (p := ⟨b, 0, none⟩) hB).trans h.c0, (hb.cell (p := ⟨b, 1, none⟩) hB).trans h.c1, (hb.cell (p := ⟨b, 2, none⟩) hB).trans h.c2,
    (hb.frozen (p := ⟨b, 0, none⟩) hB).trans h.f0, (hb.frozen (p := ⟨b, 1, none⟩) hB).trans h.f1, (hb.frozen (p := ⟨b, 2, none⟩) hB).trans h.f2, Nat.lt_of_lt_of_le h.lt hb.size⟩

theorem touch3 {w w1 : World} {b : Nat} {x y z : Value} (h : Below w.heap.size w w1) : Touch b (b + 1) w (((w1.setCell ⟨b, 0, none⟩ x).setCell ⟨b, 1, none⟩ y).setCell ⟨b, 2, none⟩ z) := by
  have h0 : Touch b (b + 1) w w1 := Touch.of_below h
  have h1 : Touch b (b + 1) w (w1.setCell ⟨b, 0, none⟩ x) := h0.setCell (p := ⟨b, 0, none⟩) (Nat.le_refl _) (Nat.lt_succ_self _) x
  have h2 : Touch b (b + 1) w ((w1.setCell ⟨b, 0, none⟩ x).setCell ⟨b, 1, none⟩ y) := h1.setCell (p := ⟨b, 1, none⟩) (Nat.le_refl _) (Nat.lt_succ_self _) y
  exact h2.setCell (p := ⟨b, 2, none⟩) (Nat.le_refl _) (Nat.lt_succ_self _) z
/-- Are there a map, a length and a residue? -/
def askR (t p r k : Int) : Bool := goodB t p && inB k 0 15 && decide (0 ≤ r ∧ r < 2 ^ k.toNat)
theorem askR_iff {t p r k : Int} : askR t p r k = true ↔ goodB t p = true ∧ (0 ≤ k ∧ k ≤ 15) ∧ 0 ≤ r ∧ r < 2 ^ k.toNat := by
  simp only [askR, inB, Bool.and_eq_true, decide_eq_true_eq, and_assoc]
/-- What WordOfResidue comes to. -/
def wor (t p r k : Int) : ByteArray := if askR t p r k = true then wby (wrd t p r k.toNat) else wby []
theorem ret_sb {x y : ByteArray} {a b : Bool} (h : x = y) (h' : a = b) : Ending.returned (.tuple #[.string x, .bool a]) = .returned (.tuple #[.string y, .bool b]) := by rw [h, h']

end Go.Proofs.YtnhpoefhcngoaaaDoor

namespace Go.Proofs.YtnhpoefhcngoaaaDoor
open Go.RowKit
set_option linter.unusedVariables false

theorem tab_drew {w : World} (h : Tab w) : Tab w.drew := h
theorem info5w : (Tryd.prog.info? 5).map (fun i => (i.zero, i.size, i.bytes)) = some (some (.int .u8 0), 1, 1) := by kernel_rfl
/-- A row that was just made holds zeros. -/
theorem made_zero_w (z : Value) (n : Nat) {j : Nat} (h : j < n * 1) (hz : z.cells = #[z] := by rfl) : ((madeCells z.cells (n * 1)).toList)[j]? = some z := by
  rw [hz]
  simp [madeCells]
  exact ⟨j, List.getElem?_range (by omega), by rw [Nat.mod_one]; rfl⟩
theorem Touch.cell {lo hi : Nat} {A B : World} (h : Touch lo hi A B) {b o : Nat} (hb : b < A.heap.size) (hr : b < lo ∨ hi ≤ b) : B.cell? ⟨b, o, none⟩ = A.cell? ⟨b, o, none⟩ := World.cell?_of_block (a := ⟨b, o, none⟩) (h.block b hb hr)
theorem Touch.frozen {lo hi : Nat} {A B : World} (h : Touch lo hi A B) {b o : Nat} (hb : b < A.heap.size) (hr : b < lo ∨ hi ≤ b) : B.frozen? ⟨b, o, none⟩ = A.frozen? ⟨b, o, none⟩ := World.frozen?_of_block (a := ⟨b, o, none⟩) (h.block b hb hr)

theorem WalkAt.set {W : World} {b : Nat} {t p v : Int} (h : WalkAt W b t p v) {g o : Nat} {u : Value} (hne : b ≠ g) : WalkAt (W.setCell ⟨g, o, none⟩ u) b t p v := by
  have hc : ∀ o', (W.setCell ⟨g, o, none⟩ u).cell? ⟨b, o', none⟩ = W.cell? ⟨b, o', none⟩ := fun o' => World.cell?_setCell_other _ _ _ _ (by simp; try omega)
  exact ⟨(hc 0).trans h.c0, (hc 1).trans h.c1, (hc 2).trans h.c2, (World.frozen?_setCell ..).trans h.f0, (World.frozen?_setCell ..).trans h.f1, (World.frozen?_setCell ..).trans h.f2, by simpa using h.lt⟩

/-- Are there a map, a number and a length? -/
def askL (t p n k : Int) : Bool := goodB t p && numB n && inB k 0 15
/-- What WordOf comes to. -/
def wof (t p n k : Int) : ByteArray := if askL t p n k = true then wby (wrd t p n k.toNat) else wby []

end Go.Proofs.YtnhpoefhcngoaaaDoor

namespace Go.Proofs.YtnhpoefhcngoaaaDoor
open Go.RowKit
set_option linter.unusedVariables false

theorem shr_cast (x n : Nat) : ((x / 2 ^ n : Nat) : Int) = (x : Int) / 2 ^ n := by simp

set_option maxRecDepth 100000 in
set_option maxHeartbeats 4000000 in
theorem signsOfPattern_any (x L : Nat) (w : World) (hL : L ≤ 15) (hx : x ≤ 32768) :
    Calls Tryd.prog 56 #[.int .i64 (x : Int), .int .i64 (L : Int)] w fun e w' => e = .returned (.string (wby (patP x L L))) ∧ Below w.heap.size w w' := by
  have hL1 : (L : Int) ≤ 15 := by omega
  have hx1 : (x : Int) ≤ 32768 := by omega
  obtain ⟨i0, hi, hi0, hi1, hi2⟩ := info_parts info5w
  go_enter Tryd.func56, Tryd.ntmps56
  go_wp2_with (at_make; refine wpList_make_full _ rfl _ _ 75 rfl w.heap.size 5 i0 (.int .u8 0) 1 Tryd.underlying75 hi hi0 hi1 .i64 .i64 L L L rfl rfl rfl rfl ?c1 ?c2 ?c3 ?_; rotate_right; intro w3 hown3 hgrow3)
  case c1 => rw [hi2]; omega
  case c2 => unfold maxLen; omega
  case c3 => exact Nat.le_refl _
  have hb3 : Below w.heap.size w w3 := ⟨hgrow3.os, hgrow3.tape, hgrow3.output, hgrow3.size, fun k hk => hgrow3.block k hk (by simp)⟩
  have hz0 : ∀ j, j < L → w3.cell? ⟨w.heap.size, j, none⟩ = some (.int .u8 0) := fun j hj => by
    rw [World.ownsRow.cellAt hown3 j (by omega)]
    exact made_zero_w _ _ (by omega)
  have hf0 : ∀ j, w3.frozen? ⟨w.heap.size, j, none⟩ = false := fun j => World.ownsRow.frozenAt hown3 j
  have HZ := Lib.hid hz0
  have HFR := Lib.hid hf0
  have HB3 := Lib.hid hb3
  clear hz0 hf0 hb3 hown3 hgrow3
  go_loopw [11] (fun i wr => ∃ j : Nat, j ≤ L ∧ i = .int .i64 j ∧ (∀ i, i < j → wr.cell? ⟨w.heap.size, i, none⟩ = some (.int .u8 ((par ((x / 2 ^ (L - 1 - i) : Nat) : Int)).toNat : Int))) ∧ (∀ i, j ≤ i → i < L → wr.cell? ⟨w.heap.size, i, none⟩ = some (.int .u8 0)) ∧ (∀ i, wr.frozen? ⟨w.heap.size, i, none⟩ = false) ∧ Below w.heap.size w wr) (fun i _ => L - (intOf i).toNat)
  case atStart => exact ⟨0, by omega, rfl, by simp, fun i _ hi => HZ.out i hi, HFR.out, HB3.out⟩
  case round =>
    obtain ⟨j, hj, rfl, h1, h2, h3, hbr⟩ := hrel
    by_cases hlt : j < L
    · have hjL : (j : Int) < (L : Int) := by omega
      obtain ⟨n, hn⟩ : ∃ n : Nat, n = L - 1 - j := ⟨_, rfl⟩
      have e1 : (L : Int) - 1 - (j : Int) = (n : Int) := by omega
      have hn15 : (n : Int) ≤ 15 := by omega
      have HS := Lib.hid (fun w => signOf_w ((x / 2 ^ n : Nat) : Int) w)
      rw [shr_cast] at HS
      have HV : Hid (par ((x / 2 ^ (L - 1 - j) : Nat) : Int) = par ((x : Int) / 2 ^ n)) := Lib.hid (by rw [← hn, shr_cast])
      have qz := h2 j (Nat.le_refl j) hlt
      have qf := h3 j
      have H1 := Lib.hid h1
      have H2 := Lib.hid h2
      have H3 := Lib.hid h3
      have HBR := Lib.hid hbr
      clear h1 h2 h3 hbr hn
      go_wp2_with fail
      refine (HS.out _).mono ?_
      rintro e w' ⟨rfl, rfl⟩
      go_wp2_with fail
      clear e1
      refine ⟨⟨j + 1, hlt, by go_num, ?_, ?_, ?_, HBR.out.setCell (p := ⟨w.heap.size, j, none⟩) (Nat.le_refl _) _⟩, by simp [intOf]; omega⟩
      · intro i hi
        by_cases e : i = j
        · subst e; rw [HV.out]; exact World.cell?_setCell_same' _ _ _ (by rw [qz]; rfl)
        · exact (World.cell?_setCell_other _ _ _ _ (by simp; try omega)).trans (H1.out i (by omega))
      · intro i hi hi2
        exact (World.cell?_setCell_other _ _ _ _ (by simp; try omega)).trans (H2.out i (by omega) hi2)
      · intro i
        rw [World.frozen?_setCell]
        exact H3.out i
    · obtain rfl : j = L := by omega
      have hl := patP_length x j j
      have hconv : (convert 75 9 (.slice (some ⟨w.heap.size, 0, none⟩) j j)).run Tryd.prog wr = .ok (.string (wby (patP x j j))) wr := by
        have := run_convert_bytes_back (P := Tryd.prog) wr 75 9 5 ⟨w.heap.size, 0, none⟩ j (patP x j j) Tryd.underlying75 Tryd.underlying5 Tryd.underlying9 (fun i hi => by
          rw [hl] at hi
          have e : (⟨w.heap.size, 0, none⟩ : Addr).add i = ⟨w.heap.size, i, none⟩ := by simp [Addr.add]; exact fun h => h.symm
          rw [e, h1 i hi]
          simp [patP])
        rw [hl] at this
        exact this
      have hjj : ¬ ((j : Int) < (j : Int)) := by omega
      clear h1 h2 h3 hl
      go_wp2_with fail
      go_ret
      exact ⟨rfl, hbr⟩
end Go.Proofs.YtnhpoefhcngoaaaDoor
