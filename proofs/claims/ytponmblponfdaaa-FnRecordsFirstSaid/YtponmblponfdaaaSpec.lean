/-
  THE MODEL's LOOPS: 'ShortAfter', 'StepsTo', 'FirstBelow'.
  'StepsTo' and 'FirstBelow' of the program: loops over the walk that end at the first number that they look for.
  'StepsTo' and 'FirstBelow' of the model.
-/
import Derived.Test.YtponmblponfdaaaAfter
namespace Go.Proofs.Ytponmblponfdaaa
open Go.RowKit Go.Shelf
set_option linter.unusedVariables false

/-- The map's block, known by its two cells. -/
def MapAt (W : World) (b : Nat) (t p : Int) : Prop := W.cell? ⟨b, 0, none⟩ = some (.int .i64 t) ∧ W.cell? ⟨b, 1, none⟩ = some (.int .i64 p) ∧ b < W.heap.size
theorem MapAt.below {W W' : World} {b B : Nat} {t p : Int} (h : MapAt W b t p) (hB : b < B) (hb : Below B W W') : MapAt W' b t p :=
  ⟨(hb.cell (p := ⟨b, 0, none⟩) hB).trans h.1, (hb.cell (p := ⟨b, 1, none⟩) hB).trans h.2.1, Nat.lt_of_lt_of_le h.2.2 hb.size⟩

end Go.Proofs.Ytponmblponfdaaa

namespace Go.Proofs.Ytponmblponfdaaa
open Go.RowKit Go.Shelf
attribute [local go_sem] Oper.semAt_some
set_option linter.unusedVariables false

/-- The first pair that is looked for. -/
def hit (S : List (Int × Int)) (q : Int × Int → Bool) (r : Int × Int → Int) : Int × Bool :=
  match S.find? q with
  | some x => (r x, true)
  | none => (0, false)
theorem hit_none {S : List (Int × Int)} {q : Int × Int → Bool} {r : Int × Int → Int} (h : ∀ x ∈ S, q x = false) : hit S q r = (0, false) := by
  have : S.find? q = none := by rw [List.find?_eq_none]; intro x hx; simp [h x hx]
  rw [hit, this]
theorem hit_some {S pre : List (Int × Int)} {q : Int × Int → Bool} {r : Int × Int → Int} {x : Int × Int} (h : ∀ y ∈ pre, q y = false) (hx : q x = true) (hp : (pre ++ [x]) <+: S) : hit S q r = (r x, true) := by
  obtain ⟨rest, rfl⟩ := hp
  have : ((pre ++ [x]) ++ rest).find? q = some x := by
    have hn : pre.find? q = none := by rw [List.find?_eq_none]; intro y hy; simp [h y hy]
    rw [List.append_assoc, List.find?_append, hn]; simp [hx]
  rw [hit, this]

set_option maxRecDepth 100000 in
set_option maxHeartbeats 2000000 in
theorem iStepsTo_any (t p n k : Int) (S : List (Int × Int)) (hseq : ∀ bw bs, Seq2 9 Try.prog 70 #[.pointer (some ⟨bw, 0, none⟩), .pointer (some ⟨bs, 0, none⟩)] (CapOf bw bs t p n 56) S) (w : World) :
    Calls Try.prog 49 #[.agg #[.int .i64 t, .int .i64 p], .int .i64 n, .int .i64 k] w fun e w' =>
      e = .returned (.tuple #[.int .i64 (hit S (fun x => x.2 == k) Prod.fst).1, .bool (hit S (fun x => x.2 == k) Prod.fst).2]) ∧ Below w.heap.size w w' := by
  refine (callsIn_wide (n := 10)).1 ?_
  refine callsIn_of_wp_marks Try.func49 rfl trivial ?_ rfl
  simp only [Try.ntmps49, List.size_toArray, List.length_cons, List.length_nil, Nat.reduceAdd, Nat.reduceSub, Array.replicate_succ, Array.replicate_zero, List.push_toArray, List.append_toArray, List.nil_append, List.cons_append]
  gi_wp2_with (refine ⟨trivial, ?_⟩; gi_at_call 55; refine (callsIn_wide.2 (along_any t p n 56 _)).mono ?_; rintro e w1 ⟨rfl, rfl⟩)
  have hcells : AfterCells w.heap.size k (.int .i64 0) (.bool false) ((((((w.alloc (Obj.cells #[Value.int IntKind.i64 t, Value.int IntKind.i64 p] 25)).alloc
                      (Obj.cells #[Value.int IntKind.i64 k] 3)).alloc (Obj.cells #[Value.int IntKind.i64 0] 3)).alloc (Obj.cells #[Value.bool false] 4)).alloc
          (Obj.cells #[Value.int IntKind.i64 t, Value.int IntKind.i64 p, Value.int IntKind.i64 n] 71)).alloc (Obj.cells #[Value.func (Fn.func 56) #[] #[]] 73)) := by
    refine ⟨?_, ?_, ?_, ?_, ?_, ?_⟩ <;> go_simp
  have hcap : CapOf (w.heap.size + 1 + 1 + 1 + 1) (w.heap.size + 1 + 1 + 1 + 1 + 1) t p n 56 ((((((w.alloc (Obj.cells #[Value.int IntKind.i64 t, Value.int IntKind.i64 p] 25)).alloc
                      (Obj.cells #[Value.int IntKind.i64 k] 3)).alloc (Obj.cells #[Value.int IntKind.i64 0] 3)).alloc (Obj.cells #[Value.bool false] 4)).alloc
          (Obj.cells #[Value.int IntKind.i64 t, Value.int IntKind.i64 p, Value.int IntKind.i64 n] 71)).alloc (Obj.cells #[Value.func (Fn.func 56) #[] #[]] 73)) := by
    refine ⟨?_, ?_, ?_, ?_, ?_, ?_⟩ <;> go_simp
  have hbel : Below w.heap.size w ((((((w.alloc (Obj.cells #[Value.int IntKind.i64 t, Value.int IntKind.i64 p] 25)).alloc
                      (Obj.cells #[Value.int IntKind.i64 k] 3)).alloc (Obj.cells #[Value.int IntKind.i64 0] 3)).alloc (Obj.cells #[Value.bool false] 4)).alloc
          (Obj.cells #[Value.int IntKind.i64 t, Value.int IntKind.i64 p, Value.int IntKind.i64 n] 71)).alloc (Obj.cells #[Value.func (Fn.func 56) #[] #[]] 73)) := by
    refine ((((((Below.refl _ w).alloc ?_ _).alloc ?_ _).alloc ?_ _).alloc ?_ _).alloc ?_ _).alloc ?_ _ <;> simp <;> omega
  generalize hw1 : ((((((w.alloc (Obj.cells #[Value.int IntKind.i64 t, Value.int IntKind.i64 p] 25)).alloc
                      (Obj.cells #[Value.int IntKind.i64 k] 3)).alloc (Obj.cells #[Value.int IntKind.i64 0] 3)).alloc (Obj.cells #[Value.bool false] 4)).alloc
          (Obj.cells #[Value.int IntKind.i64 t, Value.int IntKind.i64 p, Value.int IntKind.i64 n] 71)).alloc (Obj.cells #[Value.func (Fn.func 56) #[] #[]] 73)) = w1 at *
  have hs1 : w1.heap.size = w.heap.size + 6 := by rw [← hw1]; simp
  clear hw1
  have HS := Lib.hid hs1
  have hs2 : w.heap.size + 6 ≤ w1.heap.size := by omega
  have hs3 : w1.heap.size ≤ w.heap.size + 6 := by omega
  clear hs1
  refine wpIn_seq2 (gf := 70) (lb := #[.pointer (some ⟨w.heap.size + 1 + 1 + 1 + 1, 0, none⟩), .pointer (some ⟨w.heap.size + 1 + 1 + 1 + 1 + 1, 0, none⟩)]) rfl (enters_of Try.func70 (by kernel_rfl) rfl)
    (hseq _ _) (fun A C h hb => h.below (by omega) (by omega) hb) hcap rfl
    (fun pre W => AfterCells w.heap.size k (.int .i64 0) (.bool false) W ∧ Below w.heap.size w W ∧ ∀ x ∈ pre, (x.2 == k) = false)
    (fun c pre W => c = .ret ∧ Below w.heap.size w W ∧ ∃ v, AfterCells w.heap.size k (.int .i64 v) (.bool true) W ∧ hit S (fun x => x.2 == k) Prod.fst = (v, true))
    ?hI ?hIx ⟨hcells, hbel, by simp⟩
    (fun x => { tmps := #[.agg #[.int .i64 t, .int .i64 p], .int .i64 n, .int .i64 k, .pointer (some ⟨w.heap.size, 0, none⟩), undef, .pointer (some ⟨w.heap.size + 1, 0, none⟩), .pointer (some ⟨w.heap.size + 1 + 1, 0, none⟩), .pointer (some ⟨w.heap.size + 1 + 1 + 1, 0, none⟩), .int .i64 x.1, .int .i64 x.2, .agg #[.int .i64 t, .int .i64 p], .int .i64 n, .agg #[.int .i64 t, .int .i64 p, .int .i64 n], .func (.func 70) #[] #[.pointer (some ⟨w.heap.size + 1 + 1 + 1 + 1, 0, none⟩), .pointer (some ⟨w.heap.size + 1 + 1 + 1 + 1 + 1, 0, none⟩)], .int .i64 x.1, .int .i64 x.2, undef, undef, undef, undef], defers := [] }) ?assign ?body ?done ?stop
  case hI =>
    rintro s A C ⟨h1, h2, h3⟩ ht
    have hb := ht.below (n := w1.heap.size) (Nat.le_refl _) (by have := h1.2.2.2.2.2; omega)
    exact ⟨h1.below (by omega) hb, h2.trans (hb.mono (by omega)), h3⟩
  case hIx =>
    rintro c s A C ⟨h0, h2, v, h1, h3⟩ ht
    have hb := ht.below (n := w1.heap.size) (Nat.le_refl _) (by have := h1.2.2.2.2.2; omega)
    exact ⟨h0, h2.trans (hb.mono (by omega)), v, h1.below (by omega) hb, h3⟩
  case assign =>
    intro l x W K hK
    gi_wp2
    exact hK
  case body =>
    rintro l pre x W0 W b ⟨h1, h2, h3⟩ ht hs0 hb0 hb1 hpre hcapW
    have hb := ht.below (n := w1.heap.size) (Nat.le_refl _) (by omega)
    have h1' := h1.below (N := w1.heap.size) (by omega) hb
    have h2' := h2.trans (hb.mono (by omega))
    have H3 := Lib.hid h3
    have HP := Lib.hid hpre
    have HC := Lib.hid hcapW
    have HH := Lib.hid h1'
    obtain ⟨q1, q2, q3, q4, q5, q6⟩ := h1'
    clear h1 h2 h3 hpre hcapW hcells hbel hcap hseq
    gi_wp2
    · rename_i he
      have hk : (x.2 == k) = true := by simpa using he
      have e1 : ∀ q, q ≠ w.heap.size + 1 + 1 → q ≠ w.heap.size + 1 + 1 + 1 → ((W.setCell ⟨w.heap.size + 1 + 1, 0, none⟩ (.int .i64 x.1)).setCell ⟨w.heap.size + 1 + 1 + 1, 0, none⟩ (.bool true)).heap[q]? = W.heap[q]? := fun q h1 h2 =>
        (Below.heap_setCell _ _ _ _ h2).trans (Below.heap_setCell _ _ _ _ h1)
      refine ⟨by simp [World.setCell], e1 _ (by omega) (by omega), e1 _ (by omega) (by omega), rfl, (h2'.setCell (p := ⟨w.heap.size + 1 + 1, 0, none⟩) (by dsimp only; omega) _).setCell (p := ⟨w.heap.size + 1 + 1 + 1, 0, none⟩) (by dsimp only; omega) _, x.1, ?_, ?_⟩
      · refine ⟨?_, ?_, ?_, ?_, ?_, ?_⟩
        all_goals first | (go_simp; done) | (simp [World.setCell]; omega)
      · exact hit_some H3.out hk HP.out
    · rename_i he
      have hk : (x.2 == k) = false := by simpa using he
      refine ⟨Nat.le_refl _, rfl, rfl, rfl, HC.out, HH.out, h2', ?_⟩
      intro y hy
      rcases List.mem_append.1 hy with h | h
      · exact H3.out y h
      · obtain rfl : y = x := by simpa using h
        exact hk
  case done =>
    rintro W ⟨h1, h2, h3⟩ hK
    obtain ⟨q1, q2, q3, q4, q5, q6⟩ := h1
    have hf : hit S (fun x => x.2 == k) Prod.fst = (0, false) := hit_none h3
    have HF := Lib.hid hf
    clear h3 hf hcells hbel hcap hseq
    gi_wp2
    have e1 : ∀ q, q ≠ w.heap.size + 1 + 1 → q ≠ w.heap.size + 1 + 1 + 1 → ((W.setCell ⟨w.heap.size + 1 + 1, 0, none⟩ (.int .i64 0)).setCell ⟨w.heap.size + 1 + 1 + 1, 0, none⟩ (.bool false)).heap[q]? = W.heap[q]? := fun q h1 h2 =>
        (Below.heap_setCell _ _ _ _ h2).trans (Below.heap_setCell _ _ _ _ h1)
    have hK' := (e1 w1.heap.size (by omega) (by omega)).trans hK
    refine ⟨by simp, .inl ⟨_, _, rfl, run_takeDeferred hK', ?_⟩⟩
    refine ⟨.tuple #[.int .i64 0, .bool false], ?_, by rw [HF.out], ?_⟩
    · have hp := below_putObj (n := w1.heap.size) (l := w1.heap.size) ((W.setCell ⟨w.heap.size + 1 + 1, 0, none⟩ (.int .i64 0)).setCell ⟨w.heap.size + 1 + 1 + 1, 0, none⟩ (.bool false)) (.deferred none) (Nat.le_refl _)
      have g1 := (hp.cell (p := ⟨w.heap.size + 1 + 1, 0, none⟩) (by dsimp only; omega)).trans (c := some (.int .i64 0)) (by go_simp)
      have g2 := (hp.cell (p := ⟨w.heap.size + 1 + 1 + 1, 0, none⟩) (by dsimp only; omega)).trans (c := some (.bool false)) (by go_simp)
      simp [results, Try.f49, go_sem, g1, g2]
    · exact ((h2.setCell (p := ⟨w.heap.size + 1 + 1, 0, none⟩) (by dsimp only; omega) _).setCell (p := ⟨w.heap.size + 1 + 1 + 1, 0, none⟩) (by dsimp only; omega) _).trans (below_putObj _ _ (by omega))
  case stop =>
    rintro c pre W hpre ⟨rfl, h2, v, h1, h3⟩ hK
    obtain ⟨q1, q2, q3, q4, q5, q6⟩ := h1
    have HF := Lib.hid h3
    clear h3 hcells hbel hcap hseq
    gi_wp2
    refine ⟨by simp, .inl ⟨_, _, rfl, run_takeDeferred hK, ?_⟩⟩
    refine ⟨.tuple #[.int .i64 v, .bool true], ?_, by rw [HF.out], h2.trans (below_putObj _ _ (by omega))⟩
    have hp := below_putObj (n := w1.heap.size) (l := w1.heap.size) W (.deferred none) (Nat.le_refl _)
    have g1 := (hp.cell (p := ⟨w.heap.size + 1 + 1, 0, none⟩) (by dsimp only; omega)).trans q2
    have g2 := (hp.cell (p := ⟨w.heap.size + 1 + 1 + 1, 0, none⟩) (by dsimp only; omega)).trans q4
    simp [results, Try.f49, go_sem, g1, g2]

set_option maxRecDepth 100000 in
set_option maxHeartbeats 2000000 in
theorem iFirstBelow_any (t p k : Int) (S : List (Int × Int)) (hseq : ∀ bw bs, Seq2 9 Try.prog 70 #[.pointer (some ⟨bw, 0, none⟩), .pointer (some ⟨bs, 0, none⟩)] (CapOf bw bs t p k 56) S) (w : World) :
    Calls Try.prog 34 #[.agg #[.int .i64 t, .int .i64 p], .int .i64 k] w fun e w' =>
      e = .returned (.tuple #[.int .i64 (hit S (fun x => decide (x.2 < k)) Prod.fst).1, .bool (hit S (fun x => decide (x.2 < k)) Prod.fst).2]) ∧ Below w.heap.size w w' := by
  refine (callsIn_wide (n := 10)).1 ?_
  refine callsIn_of_wp_marks Try.func34 rfl trivial ?_ rfl
  simp only [Try.ntmps34, List.size_toArray, List.length_cons, List.length_nil, Nat.reduceAdd, Nat.reduceSub, Array.replicate_succ, Array.replicate_zero, List.push_toArray, List.append_toArray, List.nil_append, List.cons_append]
  gi_wp2_with (refine ⟨trivial, ?_⟩; gi_at_call 55; refine (callsIn_wide.2 (along_any t p k 56 _)).mono ?_; rintro e w1 ⟨rfl, rfl⟩)
  have hcells : AfterCells w.heap.size k (.int .i64 0) (.bool false) ((((((w.alloc (Obj.cells #[Value.int IntKind.i64 t, Value.int IntKind.i64 p] 25)).alloc
                      (Obj.cells #[Value.int IntKind.i64 k] 3)).alloc (Obj.cells #[Value.int IntKind.i64 0] 3)).alloc (Obj.cells #[Value.bool false] 4)).alloc
          (Obj.cells #[Value.int IntKind.i64 t, Value.int IntKind.i64 p, Value.int IntKind.i64 k] 71)).alloc (Obj.cells #[Value.func (Fn.func 56) #[] #[]] 73)) := by
    refine ⟨?_, ?_, ?_, ?_, ?_, ?_⟩ <;> go_simp
  have hcap : CapOf (w.heap.size + 1 + 1 + 1 + 1) (w.heap.size + 1 + 1 + 1 + 1 + 1) t p k 56 ((((((w.alloc (Obj.cells #[Value.int IntKind.i64 t, Value.int IntKind.i64 p] 25)).alloc
                      (Obj.cells #[Value.int IntKind.i64 k] 3)).alloc (Obj.cells #[Value.int IntKind.i64 0] 3)).alloc (Obj.cells #[Value.bool false] 4)).alloc
          (Obj.cells #[Value.int IntKind.i64 t, Value.int IntKind.i64 p, Value.int IntKind.i64 k] 71)).alloc (Obj.cells #[Value.func (Fn.func 56) #[] #[]] 73)) := by
    refine ⟨?_, ?_, ?_, ?_, ?_, ?_⟩ <;> go_simp
  have hbel : Below w.heap.size w ((((((w.alloc (Obj.cells #[Value.int IntKind.i64 t, Value.int IntKind.i64 p] 25)).alloc
                      (Obj.cells #[Value.int IntKind.i64 k] 3)).alloc (Obj.cells #[Value.int IntKind.i64 0] 3)).alloc (Obj.cells #[Value.bool false] 4)).alloc
          (Obj.cells #[Value.int IntKind.i64 t, Value.int IntKind.i64 p, Value.int IntKind.i64 k] 71)).alloc (Obj.cells #[Value.func (Fn.func 56) #[] #[]] 73)) := by
    refine ((((((Below.refl _ w).alloc ?_ _).alloc ?_ _).alloc ?_ _).alloc ?_ _).alloc ?_ _).alloc ?_ _ <;> simp <;> omega
  generalize hw1 : ((((((w.alloc (Obj.cells #[Value.int IntKind.i64 t, Value.int IntKind.i64 p] 25)).alloc
                      (Obj.cells #[Value.int IntKind.i64 k] 3)).alloc (Obj.cells #[Value.int IntKind.i64 0] 3)).alloc (Obj.cells #[Value.bool false] 4)).alloc
          (Obj.cells #[Value.int IntKind.i64 t, Value.int IntKind.i64 p, Value.int IntKind.i64 k] 71)).alloc (Obj.cells #[Value.func (Fn.func 56) #[] #[]] 73)) = w1 at *
  have hs1 : w1.heap.size = w.heap.size + 6 := by rw [← hw1]; simp
  clear hw1
  have HS := Lib.hid hs1
  have hs2 : w.heap.size + 6 ≤ w1.heap.size := by omega
  have hs3 : w1.heap.size ≤ w.heap.size + 6 := by omega
  clear hs1
  refine wpIn_seq2 (gf := 70) (lb := #[.pointer (some ⟨w.heap.size + 1 + 1 + 1 + 1, 0, none⟩), .pointer (some ⟨w.heap.size + 1 + 1 + 1 + 1 + 1, 0, none⟩)]) rfl (enters_of Try.func70 (by kernel_rfl) rfl)
    (hseq _ _) (fun A C h hb => h.below (by omega) (by omega) hb) hcap rfl
    (fun pre W => AfterCells w.heap.size k (.int .i64 0) (.bool false) W ∧ Below w.heap.size w W ∧ ∀ x ∈ pre, (decide (x.2 < k)) = false)
    (fun c pre W => c = .ret ∧ Below w.heap.size w W ∧ ∃ v, AfterCells w.heap.size k (.int .i64 v) (.bool true) W ∧ hit S (fun x => decide (x.2 < k)) Prod.fst = (v, true))
    ?hI ?hIx ⟨hcells, hbel, by simp⟩
    (fun x => { tmps := #[.agg #[.int .i64 t, .int .i64 p], .int .i64 k, .pointer (some ⟨w.heap.size, 0, none⟩), .pointer (some ⟨w.heap.size + 1, 0, none⟩), .pointer (some ⟨w.heap.size + 1 + 1, 0, none⟩), .pointer (some ⟨w.heap.size + 1 + 1 + 1, 0, none⟩), .int .i64 x.1, .int .i64 x.2, .agg #[.int .i64 t, .int .i64 p], .int .i64 k, .agg #[.int .i64 t, .int .i64 p, .int .i64 k], .func (.func 70) #[] #[.pointer (some ⟨w.heap.size + 1 + 1 + 1 + 1, 0, none⟩), .pointer (some ⟨w.heap.size + 1 + 1 + 1 + 1 + 1, 0, none⟩)], .int .i64 x.1, .int .i64 x.2, undef, undef, undef, undef], defers := [] }) ?assign ?body ?done ?stop
  case hI =>
    rintro s A C ⟨h1, h2, h3⟩ ht
    have hb := ht.below (n := w1.heap.size) (Nat.le_refl _) (by have := h1.2.2.2.2.2; omega)
    exact ⟨h1.below (by omega) hb, h2.trans (hb.mono (by omega)), h3⟩
  case hIx =>
    rintro c s A C ⟨h0, h2, v, h1, h3⟩ ht
    have hb := ht.below (n := w1.heap.size) (Nat.le_refl _) (by have := h1.2.2.2.2.2; omega)
    exact ⟨h0, h2.trans (hb.mono (by omega)), v, h1.below (by omega) hb, h3⟩
  case assign =>
    intro l x W K hK
    gi_wp2
    exact hK
  case body =>
    rintro l pre x W0 W b ⟨h1, h2, h3⟩ ht hs0 hb0 hb1 hpre hcapW
    have hb := ht.below (n := w1.heap.size) (Nat.le_refl _) (by omega)
    have h1' := h1.below (N := w1.heap.size) (by omega) hb
    have h2' := h2.trans (hb.mono (by omega))
    have H3 := Lib.hid h3
    have HP := Lib.hid hpre
    have HC := Lib.hid hcapW
    have HH := Lib.hid h1'
    obtain ⟨q1, q2, q3, q4, q5, q6⟩ := h1'
    clear h1 h2 h3 hpre hcapW hcells hbel hcap hseq
    gi_wp2
    · rename_i he
      have hk : (decide (x.2 < k)) = true := by simpa using he
      have e1 : ∀ q, q ≠ w.heap.size + 1 + 1 → q ≠ w.heap.size + 1 + 1 + 1 → ((W.setCell ⟨w.heap.size + 1 + 1, 0, none⟩ (.int .i64 x.1)).setCell ⟨w.heap.size + 1 + 1 + 1, 0, none⟩ (.bool true)).heap[q]? = W.heap[q]? := fun q h1 h2 =>
        (Below.heap_setCell _ _ _ _ h2).trans (Below.heap_setCell _ _ _ _ h1)
      refine ⟨by simp [World.setCell], e1 _ (by omega) (by omega), e1 _ (by omega) (by omega), rfl, (h2'.setCell (p := ⟨w.heap.size + 1 + 1, 0, none⟩) (by dsimp only; omega) _).setCell (p := ⟨w.heap.size + 1 + 1 + 1, 0, none⟩) (by dsimp only; omega) _, x.1, ?_, ?_⟩
      · refine ⟨?_, ?_, ?_, ?_, ?_, ?_⟩
        all_goals first | (go_simp; done) | (simp [World.setCell]; omega)
      · exact hit_some H3.out hk HP.out
    · rename_i he
      have hk : (decide (x.2 < k)) = false := by simpa using he
      refine ⟨Nat.le_refl _, rfl, rfl, rfl, HC.out, HH.out, h2', ?_⟩
      intro y hy
      rcases List.mem_append.1 hy with h | h
      · exact H3.out y h
      · obtain rfl : y = x := by simpa using h
        exact hk
  case done =>
    rintro W ⟨h1, h2, h3⟩ hK
    obtain ⟨q1, q2, q3, q4, q5, q6⟩ := h1
    have hf : hit S (fun x => decide (x.2 < k)) Prod.fst = (0, false) := hit_none h3
    have HF := Lib.hid hf
    clear h3 hf hcells hbel hcap hseq
    gi_wp2
    have e1 : ∀ q, q ≠ w.heap.size + 1 + 1 → q ≠ w.heap.size + 1 + 1 + 1 → ((W.setCell ⟨w.heap.size + 1 + 1, 0, none⟩ (.int .i64 0)).setCell ⟨w.heap.size + 1 + 1 + 1, 0, none⟩ (.bool false)).heap[q]? = W.heap[q]? := fun q h1 h2 =>
        (Below.heap_setCell _ _ _ _ h2).trans (Below.heap_setCell _ _ _ _ h1)
    have hK' := (e1 w1.heap.size (by omega) (by omega)).trans hK
    refine ⟨by simp, .inl ⟨_, _, rfl, run_takeDeferred hK', ?_⟩⟩
    refine ⟨.tuple #[.int .i64 0, .bool false], ?_, by rw [HF.out], ?_⟩
    · have hp := below_putObj (n := w1.heap.size) (l := w1.heap.size) ((W.setCell ⟨w.heap.size + 1 + 1, 0, none⟩ (.int .i64 0)).setCell ⟨w.heap.size + 1 + 1 + 1, 0, none⟩ (.bool false)) (.deferred none) (Nat.le_refl _)
      have g1 := (hp.cell (p := ⟨w.heap.size + 1 + 1, 0, none⟩) (by dsimp only; omega)).trans (c := some (.int .i64 0)) (by go_simp)
      have g2 := (hp.cell (p := ⟨w.heap.size + 1 + 1 + 1, 0, none⟩) (by dsimp only; omega)).trans (c := some (.bool false)) (by go_simp)
      simp [results, Try.f34, go_sem, g1, g2]
    · exact ((h2.setCell (p := ⟨w.heap.size + 1 + 1, 0, none⟩) (by dsimp only; omega) _).setCell (p := ⟨w.heap.size + 1 + 1 + 1, 0, none⟩) (by dsimp only; omega) _).trans (below_putObj _ _ (by omega))
  case stop =>
    rintro c pre W hpre ⟨rfl, h2, v, h1, h3⟩ hK
    obtain ⟨q1, q2, q3, q4, q5, q6⟩ := h1
    have HF := Lib.hid h3
    clear h3 hcells hbel hcap hseq
    gi_wp2
    refine ⟨by simp, .inl ⟨_, _, rfl, run_takeDeferred hK, ?_⟩⟩
    refine ⟨.tuple #[.int .i64 v, .bool true], ?_, by rw [HF.out], h2.trans (below_putObj _ _ (by omega))⟩
    have hp := below_putObj (n := w1.heap.size) (l := w1.heap.size) W (.deferred none) (Nat.le_refl _)
    have g1 := (hp.cell (p := ⟨w.heap.size + 1 + 1, 0, none⟩) (by dsimp only; omega)).trans q2
    have g2 := (hp.cell (p := ⟨w.heap.size + 1 + 1 + 1, 0, none⟩) (by dsimp only; omega)).trans q4
    simp [results, Try.f34, go_sem, g1, g2]
end Go.Proofs.Ytponmblponfdaaa

namespace Go.Proofs.Ytponmblponfdaaa
open Go.RowKit Go.Shelf
set_option linter.unusedVariables false

/-- What StepsTo and FirstBelow come to. -/
def sto (t p n g : Int) : Int × Bool := hit (seqOf t p (nx t p) n) (fun x => x.2 == g) Prod.fst
def fbl (t p n : Int) : Int × Bool := hit (seqOf t p (nx t p) n) (fun x => decide (x.2 < n)) Prod.fst
theorem hit_not {t p n : Int} {f : Int → Int} {q : Int × Int → Bool} {r : Int × Int → Int} (h : goodB t p = false ∨ numB n = false) : hit (seqOf t p f n) q r = (0, false) := by
  refine hit_none ?_
  intro x hx
  unfold seqOf at hx
  split at hx
  · rename_i hg
    rcases h with h | h
    · rw [hg] at h; exact Bool.noConfusion h
    · obtain ⟨j, hj, _⟩ := mem_upto hx
      have := ((lt_cnt _ _ _ _).1 hj).2
      have := allB_at (f := f) (n := n) (j := 0) (k := j + 1) (by omega) this
      rw [itr, h] at this
      exact Bool.noConfusion this
  · simp at hx
theorem sto_not {t p n g : Int} (h : numB g = false) : sto t p n g = (0, false) := by
  refine hit_none ?_
  intro x hx
  unfold seqOf at hx
  split at hx
  · obtain ⟨j, hj, rfl⟩ := mem_upto hx
    have := ((lt_cnt _ _ _ _).1 hj).2
    have := allB_at (j := j) (k := j + 1) (by omega) this
    rw [beq_eq_false_iff_ne]
    intro e
    dsimp only at e
    rw [e, h] at this
    exact Bool.noConfusion this
  · simp at hx

set_option maxRecDepth 100000 in
set_option maxHeartbeats 1000000 in
theorem sFirstBelow (t p n : Int) (w : World) :
    Calls Try.prog 69 #[.agg #[.int .i64 t, .int .i64 p], .int .i64 n] w fun e w' =>
      e = .returned (.tuple #[.int .i64 (fbl t p n).1, .bool (fbl t p n).2]) ∧ Below w.heap.size w w' := by
  by_cases hg : goodB t p = true
  · by_cases hn : numB n = true
    · have HG := Lib.hid hg
      have HN := Lib.hid hn
      go_enter Try.func69, Try.ntmps69
      go_wp2_with (first | (go_at_call 57; refine (mpGood_any _ _ _).mono ?_; rintro e w1 ⟨rfl, hb1⟩; obtain ⟨c0, c1, hz, hb⟩ := map_block hb1; clear hb1) | (go_at_call 76; refine (mpIs_any _ _).mono ?_; rintro e w' ⟨rfl, rfl⟩))
      have hm : MapAt w1 w.heap.size t p := ⟨c0, c1, hz⟩
      have HM := Lib.hid hm
      clear hm c0 c1 hg hn
      go_loopw [6, 7] (fun a s wr => ∃ (j : Nat), a = .int .i64 (itr (nx t p) j n) ∧ s = .int .i64 ((j : Int) + 1) ∧ j ≤ 1000 ∧ allB (nx t p) n (j + 1) = true ∧ (∀ x ∈ upto (nx t p) n (j + 1), (decide (x.2 < n)) = false) ∧ MapAt wr w.heap.size t p ∧ Below w.heap.size w wr) (fun _ s _ => 1002 - (intOf s).toNat)
      case atStart => exact ⟨0, rfl, rfl, by omega, by simp [allB, itr, HN.out], by simp [upto, itr], HM.out, hb⟩
      case round =>
        obtain ⟨j, rfl, rfl, hj, hall, hno, ⟨c0, c1, hz'⟩, hbr⟩ := hrel
        have hv : numB (itr (nx t p) j n) = true := allB_at (Nat.lt_succ_self j) hall
        obtain ⟨v, hvv⟩ : ∃ v, v = itr (nx t p) j n := ⟨_, rfl⟩
        rw [← hvv] at hv ⊢
        have HV := Lib.hid hvv
        have HALL := Lib.hid hall
        have HNO := Lib.hid hno
        have HNV := Lib.hid hv
        clear hvv hall hno hb hz hv
        have fin : (j + 1 = 1001 ∨ numB (nx t p v) = false) → fbl t p n = (0, false) := fun h => by
          have hc := cnt_eq (f := nx t p) (K := 1001) (n := n) (j := j + 1) (by omega) HALL.out (by rw [itr_succ, ← HV.out]; exact h)
          refine hit_none ?_
          rw [seqOf, if_pos HG.out, hc]
          exact HNO.out
        have FIN := Lib.hid fin
        clear fin
        by_cases hj1 : j < 1000
        · have hd : decide ((j : Int) + 1 ≤ 1000) = true := by simp; omega
          by_cases hv : numB (nx t p v) = true
          · by_cases he : nx t p v < n
            · have hf : fbl t p n = ((j : Int) + 1, true) := by
                have hp : (upto (nx t p) n (j + 1) ++ [(((j + 1 : Nat) : Int), nx t p v)]) <+: seqOf t p (nx t p) n := by
                  rw [seqOf, if_pos HG.out, HV.out, ← itr_succ (nx t p), ← upto_succ]
                  exact upto_prefix _ _ ((lt_cnt _ _ _ _).2 ⟨by omega, by rw [allB_succ, HALL.out, itr_succ, ← HV.out, hv]; rfl⟩)
                exact hit_some HNO.out (by simpa using he) hp
              have HF := Lib.hid hf
              clear hf
              go_wp2_with (first | (go_at_call 76; refine (mpIs_any _ _).mono ?_; rintro e w' ⟨rfl, rfl⟩) | (go_at_call 77; refine (mpNext_any _ _ _ _ HG.out HNV.out).mono ?_; rintro e w2 ⟨rfl, hb2⟩))
              go_ret2
              exact ⟨ret_pair HF.out, hbr.trans (hb2.mono (by omega))⟩
            · have hle : n ≤ nx t p v := by omega
              clear he
              go_wp2_with (first | (go_at_call 76; refine (mpIs_any _ _).mono ?_; rintro e w' ⟨rfl, rfl⟩) | (go_at_call 77; refine (mpNext_any _ _ _ _ HG.out HNV.out).mono ?_; rintro e w2 ⟨rfl, hb2⟩))
              refine ⟨⟨j + 1, by rw [itr_succ, ← HV.out], by go_num, by omega, by rw [allB_succ, HALL.out, itr_succ, ← HV.out, hv]; rfl, ?_, MapAt.below ⟨c0, c1, hz'⟩ hz' hb2, hbr.trans (hb2.mono (by omega))⟩, by simp [intOf]; omega⟩
              intro x hx
              rw [upto_succ, itr_succ, ← HV.out] at hx
              rcases List.mem_append.1 hx with h | h
              · exact HNO.out x h
              · obtain rfl : x = (((j + 1 : Nat) : Int), nx t p v) := by simpa using h
                simpa using hle
          · have hv' : numB (nx t p v) = false := by simpa using hv
            have HF := Lib.hid (FIN.out (.inr hv'))
            clear hv
            go_wp2_with (first | (go_at_call 76; refine (mpIs_any _ _).mono ?_; rintro e w' ⟨rfl, rfl⟩) | (go_at_call 77; refine (mpNext_any _ _ _ _ HG.out HNV.out).mono ?_; rintro e w2 ⟨rfl, hb2⟩))
            go_ret2
            exact ⟨ret_pair HF.out, hbr.trans (hb2.mono (by omega))⟩
        · have HF := Lib.hid (FIN.out (.inl (by omega)))
          have hd : decide ((j : Int) + 1 ≤ 1000) = false := by simp; omega
          go_wp2_with fail
          go_ret2
          exact ⟨ret_pair HF.out, hbr⟩
    · have hn' : numB n = false := by simpa using hn
      clear hn
      have hf : fbl t p n = (0, false) := hit_not (.inr hn')
      have HF := Lib.hid hf
      clear hf
      go_enter Try.func69, Try.ntmps69
      go_wp2_with (first | (go_at_call 57; refine (mpGood_any _ _ _).mono ?_; rintro e w1 ⟨rfl, hb1⟩; obtain ⟨c0, c1, hz, hb⟩ := map_block hb1; clear hb1) | (go_at_call 76; refine (mpIs_any _ _).mono ?_; rintro e w' ⟨rfl, rfl⟩))
      go_ret2
      exact ⟨ret_pair HF.out, hb⟩
  · have hg' : goodB t p = false := by simpa using hg
    clear hg
    have hf : fbl t p n = (0, false) := hit_not (.inl hg')
    have HF := Lib.hid hf
    clear hf
    go_enter Try.func69, Try.ntmps69
    go_wp2_with (first | (go_at_call 57; refine (mpGood_any _ _ _).mono ?_; rintro e w1 ⟨rfl, hb1⟩; obtain ⟨c0, c1, hz, hb⟩ := map_block hb1; clear hb1) | (go_at_call 76; refine (mpIs_any _ _).mono ?_; rintro e w' ⟨rfl, rfl⟩))
    go_ret2
    exact ⟨ret_pair HF.out, hb⟩

theorem iStepsTo (t p n g : Int) (w : World) :
    Calls Try.prog 49 #[.agg #[.int .i64 t, .int .i64 p], .int .i64 n, .int .i64 g] w fun e w' =>
      e = .returned (.tuple #[.int .i64 (sto t p n g).1, .bool (sto t p n g).2]) ∧ Below w.heap.size w w' :=
  iStepsTo_any t p n g (seqOf t p (nx t p) n) (fun bw bs => iter_step bw bs t p n) w
theorem iFirstBelow (t p n : Int) (w : World) :
    Calls Try.prog 34 #[.agg #[.int .i64 t, .int .i64 p], .int .i64 n] w fun e w' =>
      e = .returned (.tuple #[.int .i64 (fbl t p n).1, .bool (fbl t p n).2]) ∧ Below w.heap.size w w' :=
  iFirstBelow_any t p n (seqOf t p (nx t p) n) (fun bw bs => iter_step bw bs t p n) w
end Go.Proofs.Ytponmblponfdaaa
