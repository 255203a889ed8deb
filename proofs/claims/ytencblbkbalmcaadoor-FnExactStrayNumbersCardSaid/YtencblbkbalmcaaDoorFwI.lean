/-
  'FallsWithin' of the program: a loop over the walk that ends at the first number that is less, or behind the limit.
-/
import Derived.Test.YtencblbkbalmcaaDoorFwM
namespace Go.Proofs.YtencblbkbalmcaaDoor
open Go.RowKit Go.Shelf
attribute [local go_sem] Oper.semAt_some
set_option linter.unusedVariables false

/-- What the call has in its boxes. -/
def FwCells (B : Nat) (n k : Int) (rv ov : Value) (W : World) : Prop :=
  W.cell? ⟨B + 1, 0, none⟩ = some (.int .i64 n) ∧ W.cell? ⟨B + 1 + 1, 0, none⟩ = some (.int .i64 k) ∧ W.cell? ⟨B + 1 + 1 + 1, 0, none⟩ = some rv ∧ W.frozen? ⟨B + 1 + 1 + 1, 0, none⟩ = false ∧ W.cell? ⟨B + 1 + 1 + 1 + 1, 0, none⟩ = some ov ∧ W.frozen? ⟨B + 1 + 1 + 1 + 1, 0, none⟩ = false ∧ B + 7 ≤ W.heap.size
theorem FwCells.below {B : Nat} {n k : Int} {rv ov : Value} {A C : World} (h : FwCells B n k rv ov A) {N : Nat} (hN : B + 5 ≤ N) (hb : Below N A C) : FwCells B n k rv ov C := by
  obtain ⟨h1, h2, h3, h4, h5, h6, h7⟩ := h
  exact ⟨(hb.cell (p := ⟨B + 1, 0, none⟩) (by dsimp only; omega)).trans h1, (hb.cell (p := ⟨B + 1 + 1, 0, none⟩) (by dsimp only; omega)).trans h2, (hb.cell (p := ⟨B + 1 + 1 + 1, 0, none⟩) (by dsimp only; omega)).trans h3, (hb.frozen (p := ⟨B + 1 + 1 + 1, 0, none⟩) (by dsimp only; omega)).trans h4, (hb.cell (p := ⟨B + 1 + 1 + 1 + 1, 0, none⟩) (by dsimp only; omega)).trans h5, (hb.frozen (p := ⟨B + 1 + 1 + 1 + 1, 0, none⟩) (by dsimp only; omega)).trans h6, Nat.le_trans h7 hb.size⟩

/-- How the loop was left. -/
def FwEnd (B : Nat) (n k : Int) (r : Int × Bool) (c : Code) (W : World) : Prop := ∃ v b, FwCells B n k (.int .i64 v) (.bool b) W ∧ r = (v, b) ∧ ((c = .ret ∧ b = true) ∨ (c = .exit 0 ∧ b = false ∧ v = 0))

set_option maxRecDepth 100000 in
set_option maxHeartbeats 4000000 in
theorem iFallsWithin_any (t p n : Int) (K : Nat) (hK1 : 1 ≤ K) (hK2 : K ≤ 30) (S : List (Int × Int)) (hnum : Numbered S) (hseq : ∀ bw bs, Seq2 9 Tryd.prog 87 #[.pointer (some ⟨bw, 0, none⟩), .pointer (some ⟨bs, 0, none⟩)] (CapOf bw bs t p n 80) S) (w : World) :
    Calls Tryd.prog 65 #[.agg #[.int .i64 t, .int .i64 p], .int .i64 n, .int .i64 (K : Int)] w fun e w' =>
      e = .returned (.tuple #[.int .i64 (hitK S K (fun x => decide (x.2 < n))).1, .bool (hitK S K (fun x => decide (x.2 < n))).2]) ∧ Below w.heap.size w w' := by
  obtain ⟨k, hk⟩ : ∃ k : Int, k = (K : Int) := ⟨_, rfl⟩
  rw [← hk]
  have HK := Lib.hid hk
  have k1 : ¬ (k < 1) := by omega
  have k2 : ¬ (30 < k) := by omega
  have HNUM := Lib.hid hnum
  clear hk hK1 hK2 hnum
  refine (callsIn_wide (n := 10)).1 ?_
  refine callsIn_of_wp_marks Tryd.func65 rfl trivial ?_ rfl
  simp only [Tryd.ntmps65, List.size_toArray, List.length_cons, List.length_nil, Nat.reduceAdd, Nat.reduceSub, Array.replicate_succ, Array.replicate_zero, List.push_toArray, List.append_toArray, List.nil_append, List.cons_append]
  gi_wp2_with (refine ⟨trivial, ?_⟩; gi_at_call 81; refine (callsIn_wide.2 (along_any t p n 80 _)).mono ?_; rintro e w1 ⟨rfl, rfl⟩)
  have hcells : FwCells w.heap.size n k (.int .i64 0) (.bool false) (((((((w.alloc (Obj.cells #[Value.int IntKind.i64 t, Value.int IntKind.i64 p] 26)).alloc (Obj.cells #[Value.int IntKind.i64 n] 3)).alloc (Obj.cells #[Value.int IntKind.i64 k] 3)).alloc (Obj.cells #[Value.int IntKind.i64 0] 3)).alloc (Obj.cells #[Value.bool false] 4)).alloc (Obj.cells #[Value.int IntKind.i64 t, Value.int IntKind.i64 p, Value.int IntKind.i64 n] 84)).alloc (Obj.cells #[Value.func (Fn.func 80) #[] #[]] 86)) := by
    refine ⟨?_, ?_, ?_, ?_, ?_, ?_, ?_⟩ <;> go_simp
  have hcap : CapOf (w.heap.size + 1 + 1 + 1 + 1 + 1) (w.heap.size + 1 + 1 + 1 + 1 + 1 + 1) t p n 80 (((((((w.alloc (Obj.cells #[Value.int IntKind.i64 t, Value.int IntKind.i64 p] 26)).alloc (Obj.cells #[Value.int IntKind.i64 n] 3)).alloc (Obj.cells #[Value.int IntKind.i64 k] 3)).alloc (Obj.cells #[Value.int IntKind.i64 0] 3)).alloc (Obj.cells #[Value.bool false] 4)).alloc (Obj.cells #[Value.int IntKind.i64 t, Value.int IntKind.i64 p, Value.int IntKind.i64 n] 84)).alloc (Obj.cells #[Value.func (Fn.func 80) #[] #[]] 86)) := by
    refine ⟨?_, ?_, ?_, ?_, ?_, ?_⟩ <;> go_simp
  have hbel : Below w.heap.size w (((((((w.alloc (Obj.cells #[Value.int IntKind.i64 t, Value.int IntKind.i64 p] 26)).alloc (Obj.cells #[Value.int IntKind.i64 n] 3)).alloc (Obj.cells #[Value.int IntKind.i64 k] 3)).alloc (Obj.cells #[Value.int IntKind.i64 0] 3)).alloc (Obj.cells #[Value.bool false] 4)).alloc (Obj.cells #[Value.int IntKind.i64 t, Value.int IntKind.i64 p, Value.int IntKind.i64 n] 84)).alloc (Obj.cells #[Value.func (Fn.func 80) #[] #[]] 86)) := by
    refine (((((((Below.refl _ w).alloc ?_ _).alloc ?_ _).alloc ?_ _).alloc ?_ _).alloc ?_ _).alloc ?_ _).alloc ?_ _ <;> simp <;> omega
  generalize hw1 : (((((((w.alloc (Obj.cells #[Value.int IntKind.i64 t, Value.int IntKind.i64 p] 26)).alloc (Obj.cells #[Value.int IntKind.i64 n] 3)).alloc (Obj.cells #[Value.int IntKind.i64 k] 3)).alloc (Obj.cells #[Value.int IntKind.i64 0] 3)).alloc (Obj.cells #[Value.bool false] 4)).alloc (Obj.cells #[Value.int IntKind.i64 t, Value.int IntKind.i64 p, Value.int IntKind.i64 n] 84)).alloc (Obj.cells #[Value.func (Fn.func 80) #[] #[]] 86)) = w1 at *
  have hs1 : w1.heap.size = w.heap.size + 7 := by rw [← hw1]; simp
  clear hw1
  have HS := Lib.hid hs1
  have hs2 : w.heap.size + 7 ≤ w1.heap.size := by omega
  have hs3 : w1.heap.size ≤ w.heap.size + 7 := by omega
  clear hs1
  refine wpIn_seq2 (gf := 87) (lb := #[.pointer (some ⟨w.heap.size + 1 + 1 + 1 + 1 + 1, 0, none⟩), .pointer (some ⟨w.heap.size + 1 + 1 + 1 + 1 + 1 + 1, 0, none⟩)]) rfl (enters_of Tryd.func87 (by kernel_rfl) rfl)
    (hseq _ _) (fun A C h hb => h.below (by omega) (by omega) hb) hcap rfl
    (fun pre W => FwCells w.heap.size n k (.int .i64 0) (.bool false) W ∧ Below w.heap.size w W ∧ NoLs n pre)
    (fun c pre W => Below w.heap.size w W ∧ FwEnd w.heap.size n k (hitK S K (fun x => decide (x.2 < n))) c W)
    ?hI ?hIx ⟨hcells, hbel, fun x hx => by simp at hx⟩
    (fun x => { tmps := #[.agg #[.int .i64 t, .int .i64 p], .int .i64 n, .int .i64 k, .pointer (some ⟨w.heap.size, 0, none⟩), .pointer (some ⟨w.heap.size + 1, 0, none⟩), .pointer (some ⟨w.heap.size + 1 + 1, 0, none⟩), .pointer (some ⟨w.heap.size + 1 + 1 + 1, 0, none⟩), .pointer (some ⟨w.heap.size + 1 + 1 + 1 + 1, 0, none⟩), .int .i64 x.1, .int .i64 x.2, .int .i64 k, .bool false, .bool false, .int .i64 k, .bool false, .bool false, .agg #[.int .i64 t, .int .i64 p], .int .i64 n, .agg #[.int .i64 t, .int .i64 p, .int .i64 n], .func (.func 87) #[] #[.pointer (some ⟨w.heap.size + 1 + 1 + 1 + 1 + 1, 0, none⟩), .pointer (some ⟨w.heap.size + 1 + 1 + 1 + 1 + 1 + 1, 0, none⟩)], .int .i64 x.1, .int .i64 x.2, undef, undef, undef, undef, undef, undef, undef], defers := [] }) ?assign ?body ?done ?stop
  case hI =>
    rintro s A C ⟨h1, h2, h3⟩ ht
    have hb := ht.below (n := w1.heap.size) (Nat.le_refl _) (by have := h1.2.2.2.2.2.2; omega)
    exact ⟨h1.below (by omega) hb, h2.trans (hb.mono (by omega)), h3⟩
  case hIx =>
    rintro c s A C ⟨h2, v, b, h1, h3⟩ ht
    have hb := ht.below (n := w1.heap.size) (Nat.le_refl _) (by have := h1.2.2.2.2.2.2; omega)
    exact ⟨h2.trans (hb.mono (by omega)), v, b, h1.below (by omega) hb, h3⟩
  case assign =>
    intro l x W K hK
    gi_wp2
    exact hK
  case body =>
    rintro l pre x W0 W b ⟨h1, h2, h3⟩ ht hs0 hb0 hb1 hpre hcapW
    have hb := ht.below (n := w1.heap.size) (Nat.le_refl _) (by omega)
    have h1' := h1.below (N := w1.heap.size) (by omega) hb
    have h2' := h2.trans (hb.mono (by omega))
    have hx1 := HNUM.out pre x hpre
    have H3 := Lib.hid h3
    have HP := Lib.hid hpre
    have HC := Lib.hid hcapW
    have HH := Lib.hid h1'
    have HH2 := Lib.hid h2'
    obtain ⟨q1, q2, q3, q4, q5, q6, q7⟩ := h1'
    have HX1 := Lib.hid hx1
    clear h1 h2 h3 hpre hcapW hcells hbel hcap hseq
    by_cases hgt : k < x.1
    · have HF := Lib.hid (hitK_over (K := K) H3.out HP.out (by have := HK.out; omega))
      clear hx1
      gi_wp2
      exact ⟨Nat.le_refl _, rfl, rfl, HH2.out, 0, false, HH.out, HF.out, .inr ⟨rfl, rfl, rfl⟩⟩
    · have HLE : Hid (pre.length ≤ K) := Lib.hid (by have := HK.out; omega)
      clear hx1
      gi_wp2
      · rename_i he
        have hk : (decide (x.2 < n)) = true := by simpa using he
        have e1 : ∀ q, q ≠ w.heap.size + 1 + 1 + 1 → q ≠ w.heap.size + 1 + 1 + 1 + 1 → ((W.setCell ⟨w.heap.size + 1 + 1 + 1, 0, none⟩ (.int .i64 x.1)).setCell ⟨w.heap.size + 1 + 1 + 1 + 1, 0, none⟩ (.bool true)).heap[q]? = W.heap[q]? := fun q h1 h2 =>
          (Below.heap_setCell _ _ _ _ h2).trans (Below.heap_setCell _ _ _ _ h1)
        refine ⟨by simp [World.setCell], e1 _ (by omega) (by omega), e1 _ (by omega) (by omega), (h2'.setCell (p := ⟨w.heap.size + 1 + 1 + 1, 0, none⟩) (by dsimp only; omega) _).setCell (p := ⟨w.heap.size + 1 + 1 + 1 + 1, 0, none⟩) (by dsimp only; omega) _, x.1, true, ?_, ?_, .inl ⟨rfl, rfl⟩⟩
        · refine ⟨?_, ?_, ?_, ?_, ?_, ?_, ?_⟩
          all_goals first | (go_simp; done) | (simp [World.setCell]; omega)
        · exact hitK_some H3.out hk HP.out HLE.out
      · rename_i he
        have hk : (decide (x.2 < n)) = false := by simpa using he
        refine ⟨Nat.le_refl _, rfl, rfl, rfl, HC.out, HH.out, h2', ?_⟩
        intro y hy
        rcases List.mem_append.1 hy with h | h
        · exact H3.out y h
        · obtain rfl : y = x := by simpa using h
          exact hk
  case done =>
    rintro W ⟨h1, h2, h3⟩ hK
    obtain ⟨q1, q2, q3, q4, q5, q6, q7⟩ := h1
    have hf : hitK S K (fun x => decide (x.2 < n)) = (0, false) := hitK_none h3
    have HF := Lib.hid hf
    clear h3 hf hcells hbel hcap hseq
    gi_wp2
    have e1 : ∀ q, q ≠ w.heap.size + 1 + 1 + 1 → q ≠ w.heap.size + 1 + 1 + 1 + 1 → ((W.setCell ⟨w.heap.size + 1 + 1 + 1, 0, none⟩ (.int .i64 0)).setCell ⟨w.heap.size + 1 + 1 + 1 + 1, 0, none⟩ (.bool false)).heap[q]? = W.heap[q]? := fun q h1 h2 =>
        (Below.heap_setCell _ _ _ _ h2).trans (Below.heap_setCell _ _ _ _ h1)
    have hK' := (e1 w1.heap.size (by omega) (by omega)).trans hK
    refine ⟨by simp, .inl ⟨_, _, rfl, run_takeDeferred hK', ?_⟩⟩
    refine ⟨.tuple #[.int .i64 0, .bool false], ?_, by rw [HF.out], ?_⟩
    · have hp := below_putObj (n := w1.heap.size) (l := w1.heap.size) ((W.setCell ⟨w.heap.size + 1 + 1 + 1, 0, none⟩ (.int .i64 0)).setCell ⟨w.heap.size + 1 + 1 + 1 + 1, 0, none⟩ (.bool false)) (.deferred none) (Nat.le_refl _)
      have g1 := (hp.cell (p := ⟨w.heap.size + 1 + 1 + 1, 0, none⟩) (by dsimp only; omega)).trans (c := some (.int .i64 0)) (by go_simp)
      have g2 := (hp.cell (p := ⟨w.heap.size + 1 + 1 + 1 + 1, 0, none⟩) (by dsimp only; omega)).trans (c := some (.bool false)) (by go_simp)
      simp [results, Tryd.f65, go_sem, g1, g2]
    · exact ((h2.setCell (p := ⟨w.heap.size + 1 + 1 + 1, 0, none⟩) (by dsimp only; omega) _).setCell (p := ⟨w.heap.size + 1 + 1 + 1 + 1, 0, none⟩) (by dsimp only; omega) _).trans (below_putObj _ _ (by omega))
  case stop =>
    rintro c pre W hpre ⟨h2, v, b, h1, h3, hc⟩ hK
    obtain ⟨q1, q2, q3, q4, q5, q6, q7⟩ := h1
    have HF := Lib.hid h3
    clear h3 hcells hbel hcap hseq
    rcases hc with ⟨rfl, rfl⟩ | ⟨rfl, rfl, rfl⟩
    · gi_wp2
      refine ⟨by simp, .inl ⟨_, _, rfl, run_takeDeferred hK, ?_⟩⟩
      refine ⟨.tuple #[.int .i64 v, .bool true], ?_, by rw [HF.out], h2.trans (below_putObj _ _ (by omega))⟩
      have hp := below_putObj (n := w1.heap.size) (l := w1.heap.size) W (.deferred none) (Nat.le_refl _)
      have g1 := (hp.cell (p := ⟨w.heap.size + 1 + 1 + 1, 0, none⟩) (by dsimp only; omega)).trans q3
      have g2 := (hp.cell (p := ⟨w.heap.size + 1 + 1 + 1 + 1, 0, none⟩) (by dsimp only; omega)).trans q5
      simp [results, Tryd.f65, go_sem, g1, g2]
    · gi_wp2
      have e1 : ∀ q, q ≠ w.heap.size + 1 + 1 + 1 → q ≠ w.heap.size + 1 + 1 + 1 + 1 → ((W.setCell ⟨w.heap.size + 1 + 1 + 1, 0, none⟩ (.int .i64 0)).setCell ⟨w.heap.size + 1 + 1 + 1 + 1, 0, none⟩ (.bool false)).heap[q]? = W.heap[q]? := fun q h1 h2 =>
        (Below.heap_setCell _ _ _ _ h2).trans (Below.heap_setCell _ _ _ _ h1)
      have hK' := (e1 w1.heap.size (by omega) (by omega)).trans hK
      refine ⟨by simp, .inl ⟨_, _, rfl, run_takeDeferred hK', ?_⟩⟩
      refine ⟨.tuple #[.int .i64 0, .bool false], ?_, by rw [HF.out], ?_⟩
      · have hp := below_putObj (n := w1.heap.size) (l := w1.heap.size) ((W.setCell ⟨w.heap.size + 1 + 1 + 1, 0, none⟩ (.int .i64 0)).setCell ⟨w.heap.size + 1 + 1 + 1 + 1, 0, none⟩ (.bool false)) (.deferred none) (Nat.le_refl _)
        have g1 := (hp.cell (p := ⟨w.heap.size + 1 + 1 + 1, 0, none⟩) (by dsimp only; omega)).trans (c := some (.int .i64 0)) (by go_simp)
        have g2 := (hp.cell (p := ⟨w.heap.size + 1 + 1 + 1 + 1, 0, none⟩) (by dsimp only; omega)).trans (c := some (.bool false)) (by go_simp)
        simp [results, Tryd.f65, go_sem, g1, g2]
      · exact ((h2.setCell (p := ⟨w.heap.size + 1 + 1 + 1, 0, none⟩) (by dsimp only; omega) _).setCell (p := ⟨w.heap.size + 1 + 1 + 1 + 1, 0, none⟩) (by dsimp only; omega) _).trans (below_putObj _ _ (by omega))
end Go.Proofs.YtencblbkbalmcaaDoor
