/-
  'StepsTo' and 'FirstBelow' of the program: loops over the walk that end at the first number that they look for.
-/
import Derived.Test.YtebbafapcknllaaAfter
namespace Go.Proofs.Ytebbafapcknllaa
open Go.RowKit Go.Shelf
attribute [local go_sem] Oper.semAt_some
set_option linter.unusedVariables false

/-- The first pair that is looked for. -/
def hit (S : List (Int × Int)) (q : Int × Int → Bool) (r : Int × Int → Int) : Int × Bool :=
  match S.find? q with
  | some x => (r x, true)
  | none => (0, false)
theorem hit_none {S : List (Int × Int)} {q : Int × Int → Bool} {r : Int × Int → Int} (h : ∀ x ∈ S, q x = false) : hit S q r = (0, false) := by
  have : S.find? q = none := by rw [List.find?_eq_none]; intro x hx; simp [h x hx]
  rw [hit, this]
theorem hit_some {S pre : List (Int × Int)} {q : Int × Int → Bool} {r : Int × Int → Int} {x : Int × Int} (h : ∀ y ∈ pre, q y = false) (hx : q x = true) (hp : (pre ++ [x]) <+: S) : hit S q r = (r x, true) := by
  obtain ⟨rest, rfl⟩ := hp
  have : ((pre ++ [x]) ++ rest).find? q = some x := by
    have hn : pre.find? q = none := by rw [List.find?_eq_none]; intro y hy; simp [h y hy]
    rw [List.append_assoc, List.find?_append, hn]; simp [hx]
  rw [hit, this]

set_option maxRecDepth 100000 in
set_option maxHeartbeats 2000000 in
theorem iStepsTo_any (t p n k : Int) (S : List (Int × Int)) (hseq : ∀ bw bs, Seq2 9 Try.prog 65 #[.pointer (some ⟨bw, 0, none⟩), .pointer (some ⟨bs, 0, none⟩)] (CapOf bw bs t p n 36) S) (w : World) :
    Calls Try.prog 25 #[.agg #[.int .i64 t, .int .i64 p], .int .i64 n, .int .i64 k] w fun e w' =>
      e = .returned (.tuple #[.int .i64 (hit S (fun x => x.2 == k) Prod.fst).1, .bool (hit S (fun x => x.2 == k) Prod.fst).2]) ∧ Below w.heap.size w w' := by
  refine (callsIn_wide (n := 10)).1 ?_
  refine callsIn_of_wp_marks Try.func25 rfl trivial ?_ rfl
  simp only [Try.ntmps25, List.size_toArray, List.length_cons, List.length_nil, Nat.reduceAdd, Nat.reduceSub, Array.replicate_succ, Array.replicate_zero, List.push_toArray, List.append_toArray, List.nil_append, List.cons_append]
  gi_wp2_with (refine ⟨trivial, ?_⟩; gi_at_call 50; refine (callsIn_wide.2 (along_any t p n 36 _)).mono ?_; rintro e w1 ⟨rfl, rfl⟩)
  have hcells : AfterCells w.heap.size k (.int .i64 0) (.bool false) ((((((w.alloc (Obj.cells #[Value.int IntKind.i64 t, Value.int IntKind.i64 p] 25)).alloc
                      (Obj.cells #[Value.int IntKind.i64 k] 3)).alloc (Obj.cells #[Value.int IntKind.i64 0] 3)).alloc (Obj.cells #[Value.bool false] 4)).alloc
          (Obj.cells #[Value.int IntKind.i64 t, Value.int IntKind.i64 p, Value.int IntKind.i64 n] 51)).alloc (Obj.cells #[Value.func (Fn.func 36) #[] #[]] 53)) := by
    refine ⟨?_, ?_, ?_, ?_, ?_, ?_⟩ <;> go_simp
  have hcap : CapOf (w.heap.size + 1 + 1 + 1 + 1) (w.heap.size + 1 + 1 + 1 + 1 + 1) t p n 36 ((((((w.alloc (Obj.cells #[Value.int IntKind.i64 t, Value.int IntKind.i64 p] 25)).alloc
                      (Obj.cells #[Value.int IntKind.i64 k] 3)).alloc (Obj.cells #[Value.int IntKind.i64 0] 3)).alloc (Obj.cells #[Value.bool false] 4)).alloc
          (Obj.cells #[Value.int IntKind.i64 t, Value.int IntKind.i64 p, Value.int IntKind.i64 n] 51)).alloc (Obj.cells #[Value.func (Fn.func 36) #[] #[]] 53)) := by
    refine ⟨?_, ?_, ?_, ?_, ?_, ?_⟩ <;> go_simp
  have hbel : Below w.heap.size w ((((((w.alloc (Obj.cells #[Value.int IntKind.i64 t, Value.int IntKind.i64 p] 25)).alloc
                      (Obj.cells #[Value.int IntKind.i64 k] 3)).alloc (Obj.cells #[Value.int IntKind.i64 0] 3)).alloc (Obj.cells #[Value.bool false] 4)).alloc
          (Obj.cells #[Value.int IntKind.i64 t, Value.int IntKind.i64 p, Value.int IntKind.i64 n] 51)).alloc (Obj.cells #[Value.func (Fn.func 36) #[] #[]] 53)) := by
    refine ((((((Below.refl _ w).alloc ?_ _).alloc ?_ _).alloc ?_ _).alloc ?_ _).alloc ?_ _).alloc ?_ _ <;> simp <;> omega
  generalize hw1 : ((((((w.alloc (Obj.cells #[Value.int IntKind.i64 t, Value.int IntKind.i64 p] 25)).alloc
                      (Obj.cells #[Value.int IntKind.i64 k] 3)).alloc (Obj.cells #[Value.int IntKind.i64 0] 3)).alloc (Obj.cells #[Value.bool false] 4)).alloc
          (Obj.cells #[Value.int IntKind.i64 t, Value.int IntKind.i64 p, Value.int IntKind.i64 n] 51)).alloc (Obj.cells #[Value.func (Fn.func 36) #[] #[]] 53)) = w1 at *
  have hs1 : w1.heap.size = w.heap.size + 6 := by rw [← hw1]; simp
  clear hw1
  have HS := Lib.hid hs1
  have hs2 : w.heap.size + 6 ≤ w1.heap.size := by omega
  have hs3 : w1.heap.size ≤ w.heap.size + 6 := by omega
  clear hs1
  refine wpIn_seq2 (gf := 65) (lb := #[.pointer (some ⟨w.heap.size + 1 + 1 + 1 + 1, 0, none⟩), .pointer (some ⟨w.heap.size + 1 + 1 + 1 + 1 + 1, 0, none⟩)]) rfl (enters_of Try.func65 (by kernel_rfl) rfl)
    (hseq _ _) (fun A C h hb => h.below (by omega) (by omega) hb) hcap rfl
    (fun pre W => AfterCells w.heap.size k (.int .i64 0) (.bool false) W ∧ Below w.heap.size w W ∧ ∀ x ∈ pre, (x.2 == k) = false)
    (fun c pre W => c = .ret ∧ Below w.heap.size w W ∧ ∃ v, AfterCells w.heap.size k (.int .i64 v) (.bool true) W ∧ hit S (fun x => x.2 == k) Prod.fst = (v, true))
    ?hI ?hIx ⟨hcells, hbel, by simp⟩
    (fun x => { tmps := #[.agg #[.int .i64 t, .int .i64 p], .int .i64 n, .int .i64 k, .pointer (some ⟨w.heap.size, 0, none⟩), undef, .pointer (some ⟨w.heap.size + 1, 0, none⟩), .pointer (some ⟨w.heap.size + 1 + 1, 0, none⟩), .pointer (some ⟨w.heap.size + 1 + 1 + 1, 0, none⟩), .int .i64 x.1, .int .i64 x.2, .agg #[.int .i64 t, .int .i64 p], .int .i64 n, .agg #[.int .i64 t, .int .i64 p, .int .i64 n], .func (.func 65) #[] #[.pointer (some ⟨w.heap.size + 1 + 1 + 1 + 1, 0, none⟩), .pointer (some ⟨w.heap.size + 1 + 1 + 1 + 1 + 1, 0, none⟩)], .int .i64 x.1, .int .i64 x.2, undef, undef, undef, undef], defers := [] }) ?assign ?body ?done ?stop
  case hI =>
    rintro s A C ⟨h1, h2, h3⟩ ht
    have hb := ht.below (n := w1.heap.size) (Nat.le_refl _) (by have := h1.2.2.2.2.2; omega)
    exact ⟨h1.below (by omega) hb, h2.trans (hb.mono (by omega)), h3⟩
  case hIx =>
    rintro c s A C ⟨h0, h2, v, h1, h3⟩ ht
    have hb := ht.below (n := w1.heap.size) (Nat.le_refl _) (by have := h1.2.2.2.2.2; omega)
    exact ⟨h0, h2.trans (hb.mono (by omega)), v, h1.below (by omega) hb, h3⟩
  case assign =>
    intro l x W K hK
    gi_wp2
    exact hK
  case body =>
    rintro l pre x W0 W b ⟨h1, h2, h3⟩ ht hs0 hb0 hb1 hpre hcapW
    have hb := ht.below (n := w1.heap.size) (Nat.le_refl _) (by omega)
    have h1' := h1.below (N := w1.heap.size) (by omega) hb
    have h2' := h2.trans (hb.mono (by omega))
    have H3 := Lib.hid h3
    have HP := Lib.hid hpre
    have HC := Lib.hid hcapW
    have HH := Lib.hid h1'
    obtain ⟨q1, q2, q3, q4, q5, q6⟩ := h1'
    clear h1 h2 h3 hpre hcapW hcells hbel hcap hseq
    gi_wp2
    · rename_i he
      have hk : (x.2 == k) = true := by simpa using he
      have e1 : ∀ q, q ≠ w.heap.size + 1 + 1 → q ≠ w.heap.size + 1 + 1 + 1 → ((W.setCell ⟨w.heap.size + 1 + 1, 0, none⟩ (.int .i64 x.1)).setCell ⟨w.heap.size + 1 + 1 + 1, 0, none⟩ (.bool true)).heap[q]? = W.heap[q]? := fun q h1 h2 =>
        (Below.heap_setCell _ _ _ _ h2).trans (Below.heap_setCell _ _ _ _ h1)
      refine ⟨by simp [World.setCell], e1 _ (by omega) (by omega), e1 _ (by omega) (by omega), rfl, (h2'.setCell (p := ⟨w.heap.size + 1 + 1, 0, none⟩) (by dsimp only; omega) _).setCell (p := ⟨w.heap.size + 1 + 1 + 1, 0, none⟩) (by dsimp only; omega) _, x.1, ?_, ?_⟩
      · refine ⟨?_, ?_, ?_, ?_, ?_, ?_⟩
        all_goals first | (go_simp; done) | (simp [World.setCell]; omega)
      · exact hit_some H3.out hk HP.out
    · rename_i he
      have hk : (x.2 == k) = false := by simpa using he
      refine ⟨Nat.le_refl _, rfl, rfl, rfl, HC.out, HH.out, h2', ?_⟩
      intro y hy
      rcases List.mem_append.1 hy with h | h
      · exact H3.out y h
      · obtain rfl : y = x := by simpa using h
        exact hk
  case done =>
    rintro W ⟨h1, h2, h3⟩ hK
    obtain ⟨q1, q2, q3, q4, q5, q6⟩ := h1
    have hf : hit S (fun x => x.2 == k) Prod.fst = (0, false) := hit_none h3
    have HF := Lib.hid hf
    clear h3 hf hcells hbel hcap hseq
    gi_wp2
    have e1 : ∀ q, q ≠ w.heap.size + 1 + 1 → q ≠ w.heap.size + 1 + 1 + 1 → ((W.setCell ⟨w.heap.size + 1 + 1, 0, none⟩ (.int .i64 0)).setCell ⟨w.heap.size + 1 + 1 + 1, 0, none⟩ (.bool false)).heap[q]? = W.heap[q]? := fun q h1 h2 =>
        (Below.heap_setCell _ _ _ _ h2).trans (Below.heap_setCell _ _ _ _ h1)
    have hK' := (e1 w1.heap.size (by omega) (by omega)).trans hK
    refine ⟨by simp, .inl ⟨_, _, rfl, run_takeDeferred hK', ?_⟩⟩
    refine ⟨.tuple #[.int .i64 0, .bool false], ?_, by rw [HF.out], ?_⟩
    · have hp := below_putObj (n := w1.heap.size) (l := w1.heap.size) ((W.setCell ⟨w.heap.size + 1 + 1, 0, none⟩ (.int .i64 0)).setCell ⟨w.heap.size + 1 + 1 + 1, 0, none⟩ (.bool false)) (.deferred none) (Nat.le_refl _)
      have g1 := (hp.cell (p := ⟨w.heap.size + 1 + 1, 0, none⟩) (by dsimp only; omega)).trans (c := some (.int .i64 0)) (by go_simp)
      have g2 := (hp.cell (p := ⟨w.heap.size + 1 + 1 + 1, 0, none⟩) (by dsimp only; omega)).trans (c := some (.bool false)) (by go_simp)
      simp [results, Try.f25, go_sem, g1, g2]
    · exact ((h2.setCell (p := ⟨w.heap.size + 1 + 1, 0, none⟩) (by dsimp only; omega) _).setCell (p := ⟨w.heap.size + 1 + 1 + 1, 0, none⟩) (by dsimp only; omega) _).trans (below_putObj _ _ (by omega))
  case stop =>
    rintro c pre W hpre ⟨rfl, h2, v, h1, h3⟩ hK
    obtain ⟨q1, q2, q3, q4, q5, q6⟩ := h1
    have HF := Lib.hid h3
    clear h3 hcells hbel hcap hseq
    gi_wp2
    refine ⟨by simp, .inl ⟨_, _, rfl, run_takeDeferred hK, ?_⟩⟩
    refine ⟨.tuple #[.int .i64 v, .bool true], ?_, by rw [HF.out], h2.trans (below_putObj _ _ (by omega))⟩
    have hp := below_putObj (n := w1.heap.size) (l := w1.heap.size) W (.deferred none) (Nat.le_refl _)
    have g1 := (hp.cell (p := ⟨w.heap.size + 1 + 1, 0, none⟩) (by dsimp only; omega)).trans q2
    have g2 := (hp.cell (p := ⟨w.heap.size + 1 + 1 + 1, 0, none⟩) (by dsimp only; omega)).trans q4
    simp [results, Try.f25, go_sem, g1, g2]

end Go.Proofs.Ytebbafapcknllaa
