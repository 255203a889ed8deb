/-
  'after': what is behind so many steps of a walk.
-/
import Derived.Test.YtnhpoefhcngoaaaDoorAlong
import Derived.Test.YtnhpoefhcngoaaaDoorIterS
namespace Go.Proofs.YtnhpoefhcngoaaaDoor
open Go.RowKit Go.Shelf
attribute [local go_sem] Oper.semAt_some
set_option linter.unusedVariables false

/-- What is found behind k steps. -/
def found (S : List (Int × Int)) (k : Int) : Int × Bool :=
  match S.find? (fun x => x.1 == k) with
  | some x => (x.2, true)
  | none => (0, false)
theorem found_none {S : List (Int × Int)} {k : Int} (h : ∀ x ∈ S, x.1 ≠ k) : found S k = (0, false) := by
  have : S.find? (fun x => x.1 == k) = none := by rw [List.find?_eq_none]; intro x hx; simpa using h x hx
  rw [found, this]
theorem found_some {S pre : List (Int × Int)} {k v : Int} (h : ∀ x ∈ pre, x.1 ≠ k) (hp : (pre ++ [(k, v)]) <+: S) : found S k = (v, true) := by
  obtain ⟨rest, rfl⟩ := hp
  have : ((pre ++ [(k, v)]) ++ rest).find? (fun x => x.1 == k) = some (k, v) := by
    have hn : pre.find? (fun x => x.1 == k) = none := by rw [List.find?_eq_none]; intro x hx; simpa using h x hx
    rw [List.append_assoc, List.find?_append, hn]; simp
  rw [found, this]

/-- The cells of a call of 'after': its argument 'steps' and its two results. -/
def AfterCells (B : Nat) (k : Int) (rv ov : Value) (W : World) : Prop :=
  W.cell? ⟨B + 1, 0, none⟩ = some (.int .i64 k) ∧ W.cell? ⟨B + 1 + 1, 0, none⟩ = some rv ∧ W.frozen? ⟨B + 1 + 1, 0, none⟩ = false ∧
  W.cell? ⟨B + 1 + 1 + 1, 0, none⟩ = some ov ∧ W.frozen? ⟨B + 1 + 1 + 1, 0, none⟩ = false ∧ B + 6 ≤ W.heap.size
theorem AfterCells.below {B : Nat} {k : Int} {rv ov : Value} {A C : World} (h : AfterCells B k rv ov A) {N : Nat} (hN : B + 4 ≤ N) (hb : Below N A C) : AfterCells B k rv ov C := by
  obtain ⟨h1, h2, h3, h4, h5, h6⟩ := h
  refine ⟨(hb.cell (p := ⟨B + 1, 0, none⟩) ?_).trans h1, (hb.cell (p := ⟨B + 1 + 1, 0, none⟩) ?_).trans h2, (hb.frozen (p := ⟨B + 1 + 1, 0, none⟩) ?_).trans h3, (hb.cell (p := ⟨B + 1 + 1 + 1, 0, none⟩) ?_).trans h4, (hb.frozen (p := ⟨B + 1 + 1 + 1, 0, none⟩) ?_).trans h5, Nat.le_trans h6 hb.size⟩ <;> (dsimp only; omega)

set_option maxRecDepth 100000 in
set_option maxHeartbeats 2000000 in
theorem after_any (t p n k : Int) (fs : Nat) (S : List (Int × Int)) (hseq : ∀ bw bs, Seq2 9 Tryd.prog 61 #[.pointer (some ⟨bw, 0, none⟩), .pointer (some ⟨bs, 0, none⟩)] (CapOf bw bs t p n fs) S) (w : World) :
    Calls Tryd.prog 33 #[.agg #[.int .i64 t, .int .i64 p, .int .i64 n], .int .i64 k, .func (.func fs) #[] #[]] w fun e w' =>
      e = .returned (.tuple #[.int .i64 (found S k).1, .bool (found S k).2]) ∧ Below w.heap.size w w' := by
  refine (callsIn_wide (n := 10)).1 ?_
  refine callsIn_of_wp_marks Tryd.func33 rfl trivial ?_ rfl
  simp only [Tryd.ntmps33, List.size_toArray, List.length_cons, List.length_nil, Nat.reduceAdd, Nat.reduceSub, Array.replicate_succ, Array.replicate_zero, List.push_toArray, List.append_toArray, List.nil_append, List.cons_append]
  gi_wp2_with (refine ⟨trivial, ?_⟩; gi_at_call 53; refine (callsIn_wide.2 (along_any t p n fs _)).mono ?_; rintro e w1 ⟨rfl, rfl⟩)
  have hcells : AfterCells w.heap.size k (.int .i64 0) (.bool false) ((((((w.alloc (Obj.cells #[Value.int IntKind.i64 t, Value.int IntKind.i64 p, Value.int IntKind.i64 n] 53)).alloc
                      (Obj.cells #[Value.int IntKind.i64 k] 3)).alloc (Obj.cells #[Value.int IntKind.i64 0] 3)).alloc (Obj.cells #[Value.bool false] 4)).alloc
          (Obj.cells #[Value.int IntKind.i64 t, Value.int IntKind.i64 p, Value.int IntKind.i64 n] 53)).alloc (Obj.cells #[Value.func (Fn.func fs) #[] #[]] 55)) := by
    refine ⟨?_, ?_, ?_, ?_, ?_, ?_⟩ <;> go_simp
  have hcap : CapOf (w.heap.size + 1 + 1 + 1 + 1) (w.heap.size + 1 + 1 + 1 + 1 + 1) t p n fs ((((((w.alloc (Obj.cells #[Value.int IntKind.i64 t, Value.int IntKind.i64 p, Value.int IntKind.i64 n] 53)).alloc
                      (Obj.cells #[Value.int IntKind.i64 k] 3)).alloc (Obj.cells #[Value.int IntKind.i64 0] 3)).alloc (Obj.cells #[Value.bool false] 4)).alloc
          (Obj.cells #[Value.int IntKind.i64 t, Value.int IntKind.i64 p, Value.int IntKind.i64 n] 53)).alloc (Obj.cells #[Value.func (Fn.func fs) #[] #[]] 55)) := by
    refine ⟨?_, ?_, ?_, ?_, ?_, ?_⟩ <;> go_simp
  have hbel : Below w.heap.size w ((((((w.alloc (Obj.cells #[Value.int IntKind.i64 t, Value.int IntKind.i64 p, Value.int IntKind.i64 n] 53)).alloc
                      (Obj.cells #[Value.int IntKind.i64 k] 3)).alloc (Obj.cells #[Value.int IntKind.i64 0] 3)).alloc (Obj.cells #[Value.bool false] 4)).alloc
          (Obj.cells #[Value.int IntKind.i64 t, Value.int IntKind.i64 p, Value.int IntKind.i64 n] 53)).alloc (Obj.cells #[Value.func (Fn.func fs) #[] #[]] 55)) := by
    refine ((((((Below.refl _ w).alloc ?_ _).alloc ?_ _).alloc ?_ _).alloc ?_ _).alloc ?_ _).alloc ?_ _ <;> simp <;> omega
  generalize hw1 : ((((((w.alloc (Obj.cells #[Value.int IntKind.i64 t, Value.int IntKind.i64 p, Value.int IntKind.i64 n] 53)).alloc
                      (Obj.cells #[Value.int IntKind.i64 k] 3)).alloc (Obj.cells #[Value.int IntKind.i64 0] 3)).alloc (Obj.cells #[Value.bool false] 4)).alloc
          (Obj.cells #[Value.int IntKind.i64 t, Value.int IntKind.i64 p, Value.int IntKind.i64 n] 53)).alloc (Obj.cells #[Value.func (Fn.func fs) #[] #[]] 55)) = w1 at *
  have hs1 : w1.heap.size = w.heap.size + 6 := by rw [← hw1]; simp
  clear hw1
  have HS := Lib.hid hs1
  have hs2 : w.heap.size + 6 ≤ w1.heap.size := by omega
  have hs3 : w1.heap.size ≤ w.heap.size + 6 := by omega
  clear hs1
  refine wpIn_seq2 (gf := 61) (lb := #[.pointer (some ⟨w.heap.size + 1 + 1 + 1 + 1, 0, none⟩), .pointer (some ⟨w.heap.size + 1 + 1 + 1 + 1 + 1, 0, none⟩)]) rfl (enters_of Tryd.func61 (by kernel_rfl) rfl)
    (hseq _ _) (fun A C h hb => h.below (by omega) (by omega) hb) hcap rfl
    (fun pre W => AfterCells w.heap.size k (.int .i64 0) (.bool false) W ∧ Below w.heap.size w W ∧ ∀ x ∈ pre, x.1 ≠ k)
    (fun c pre W => c = .ret ∧ Below w.heap.size w W ∧ ∃ v, AfterCells w.heap.size k (.int .i64 v) (.bool true) W ∧ found S k = (v, true))
    ?hI ?hIx ⟨hcells, hbel, by simp⟩
    (fun x => { tmps := #[.agg #[.int .i64 t, .int .i64 p, .int .i64 n], .int .i64 k, .func (.func fs) #[] #[], .pointer (some ⟨w.heap.size, 0, none⟩), .pointer (some ⟨w.heap.size + 1, 0, none⟩), undef,
      .pointer (some ⟨w.heap.size + 1 + 1, 0, none⟩), .pointer (some ⟨w.heap.size + 1 + 1 + 1, 0, none⟩), .int .i64 x.1, .int .i64 x.2, .agg #[.int .i64 t, .int .i64 p, .int .i64 n], .func (.func fs) #[] #[],
      .func (.func 61) #[] #[.pointer (some ⟨w.heap.size + 1 + 1 + 1 + 1, 0, none⟩), .pointer (some ⟨w.heap.size + 1 + 1 + 1 + 1 + 1, 0, none⟩)], .int .i64 x.1, .int .i64 x.2, undef, undef, undef, undef], defers := [] }) ?assign ?body ?done ?stop
  case hI =>
    rintro s A C ⟨h1, h2, h3⟩ ht
    have hb := ht.below (n := w1.heap.size) (Nat.le_refl _) (by have := h1.2.2.2.2.2; omega)
    exact ⟨h1.below (by omega) hb, h2.trans (hb.mono (by omega)), h3⟩
  case hIx =>
    rintro c s A C ⟨h0, h2, v, h1, h3⟩ ht
    have hb := ht.below (n := w1.heap.size) (Nat.le_refl _) (by have := h1.2.2.2.2.2; omega)
    exact ⟨h0, h2.trans (hb.mono (by omega)), v, h1.below (by omega) hb, h3⟩
  case assign =>
    intro l x W K hK
    gi_wp2
    exact hK
  case body =>
    rintro l pre x W0 W b ⟨h1, h2, h3⟩ ht hs0 hb0 hb1 hpre hcapW
    have hb := ht.below (n := w1.heap.size) (Nat.le_refl _) (by omega)
    have h1' := h1.below (N := w1.heap.size) (by omega) hb
    have h2' := h2.trans (hb.mono (by omega))
    have H3 := Lib.hid h3
    have HP := Lib.hid hpre
    have HC := Lib.hid hcapW
    have HH := Lib.hid h1'
    obtain ⟨q1, q2, q3, q4, q5, q6⟩ := h1'
    clear h1 h2 h3 hpre hcapW hcells hbel hcap hseq
    gi_wp2
    · rename_i he
      have hk : x.1 = k := by simpa using he
      have e1 : ∀ q, q ≠ w.heap.size + 1 + 1 → q ≠ w.heap.size + 1 + 1 + 1 → ((W.setCell ⟨w.heap.size + 1 + 1, 0, none⟩ (.int .i64 x.2)).setCell ⟨w.heap.size + 1 + 1 + 1, 0, none⟩ (.bool true)).heap[q]? = W.heap[q]? := fun q h1 h2 =>
        (Below.heap_setCell _ _ _ _ h2).trans (Below.heap_setCell _ _ _ _ h1)
      refine ⟨by simp [World.setCell], e1 _ (by omega) (by omega), e1 _ (by omega) (by omega), rfl, (h2'.setCell (p := ⟨w.heap.size + 1 + 1, 0, none⟩) (by dsimp only; omega) _).setCell (p := ⟨w.heap.size + 1 + 1 + 1, 0, none⟩) (by dsimp only; omega) _, x.2, ?_, ?_⟩
      · refine ⟨?_, ?_, ?_, ?_, ?_, ?_⟩
        all_goals first | (go_simp; done) | (simp [World.setCell]; omega)
      · have hx : x = (k, x.2) := by rw [← hk]
        have hp := HP.out
        rw [hx] at hp
        exact found_some H3.out hp
    · rename_i he
      have hk : x.1 ≠ k := by simpa using he
      refine ⟨Nat.le_refl _, rfl, rfl, rfl, HC.out, HH.out, h2', ?_⟩
      intro y hy
      rcases List.mem_append.1 hy with h | h
      · exact H3.out y h
      · obtain rfl : y = x := by simpa using h
        exact hk
  case done =>
    rintro W ⟨h1, h2, h3⟩ hK
    obtain ⟨q1, q2, q3, q4, q5, q6⟩ := h1
    have hf : found S k = (0, false) := found_none h3
    have HF := Lib.hid hf
    clear h3 hf hcells hbel hcap hseq
    gi_wp2
    have e1 : ∀ q, q ≠ w.heap.size + 1 + 1 → q ≠ w.heap.size + 1 + 1 + 1 → ((W.setCell ⟨w.heap.size + 1 + 1, 0, none⟩ (.int .i64 0)).setCell ⟨w.heap.size + 1 + 1 + 1, 0, none⟩ (.bool false)).heap[q]? = W.heap[q]? := fun q h1 h2 =>
        (Below.heap_setCell _ _ _ _ h2).trans (Below.heap_setCell _ _ _ _ h1)
    have hK' := (e1 w1.heap.size (by omega) (by omega)).trans hK
    refine ⟨by simp, .inl ⟨_, _, rfl, run_takeDeferred hK', ?_⟩⟩
    refine ⟨.tuple #[.int .i64 0, .bool false], ?_, by rw [HF.out], ?_⟩
    · have hp := below_putObj (n := w1.heap.size) (l := w1.heap.size) ((W.setCell ⟨w.heap.size + 1 + 1, 0, none⟩ (.int .i64 0)).setCell ⟨w.heap.size + 1 + 1 + 1, 0, none⟩ (.bool false)) (.deferred none) (Nat.le_refl _)
      have g1 := (hp.cell (p := ⟨w.heap.size + 1 + 1, 0, none⟩) (by dsimp only; omega)).trans (c := some (.int .i64 0)) (by go_simp)
      have g2 := (hp.cell (p := ⟨w.heap.size + 1 + 1 + 1, 0, none⟩) (by dsimp only; omega)).trans (c := some (.bool false)) (by go_simp)
      simp [results, Tryd.f33, go_sem, g1, g2]
    · exact ((h2.setCell (p := ⟨w.heap.size + 1 + 1, 0, none⟩) (by dsimp only; omega) _).setCell (p := ⟨w.heap.size + 1 + 1 + 1, 0, none⟩) (by dsimp only; omega) _).trans (below_putObj _ _ (by omega))
  case stop =>
    rintro c pre W hpre ⟨rfl, h2, v, h1, h3⟩ hK
    obtain ⟨q1, q2, q3, q4, q5, q6⟩ := h1
    have HF := Lib.hid h3
    clear h3 hcells hbel hcap hseq
    gi_wp2
    refine ⟨by simp, .inl ⟨_, _, rfl, run_takeDeferred hK, ?_⟩⟩
    refine ⟨.tuple #[.int .i64 v, .bool true], ?_, by rw [HF.out], h2.trans (below_putObj _ _ (by omega))⟩
    have hp := below_putObj (n := w1.heap.size) (l := w1.heap.size) W (.deferred none) (Nat.le_refl _)
    have g1 := (hp.cell (p := ⟨w.heap.size + 1 + 1, 0, none⟩) (by dsimp only; omega)).trans q2
    have g2 := (hp.cell (p := ⟨w.heap.size + 1 + 1 + 1, 0, none⟩) (by dsimp only; omega)).trans q4
    simp [results, Tryd.f33, go_sem, g1, g2]
end Go.Proofs.YtnhpoefhcngoaaaDoor
