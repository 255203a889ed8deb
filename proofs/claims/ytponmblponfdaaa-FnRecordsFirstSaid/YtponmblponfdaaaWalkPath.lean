/-
  'path' of the program: the path of so many steps of a walk.
-/
import Derived.Test.YtponmblponfdaaaRange
import Derived.Test.YtponmblponfdaaaPath
import Derived.Test.YtponmblponfdaaaAft
namespace Go.Proofs.Ytponmblponfdaaa
open Go.RowKit Go.Shelf
attribute [local go_sem] Oper.semAt_some
set_option linter.unusedVariables false

/-- The cells of a call of 'path': its argument 'steps', its two results, the path so far. -/
def PathCells (B : Nat) (k : Int) (rv ov pv : Value) (W : World) : Prop :=
  W.cell? ⟨B + 1, 0, none⟩ = some (.int .i64 k) ∧ W.cell? ⟨B + 1 + 1, 0, none⟩ = some rv ∧ W.frozen? ⟨B + 1 + 1, 0, none⟩ = false ∧
  W.cell? ⟨B + 1 + 1 + 1, 0, none⟩ = some ov ∧ W.frozen? ⟨B + 1 + 1 + 1, 0, none⟩ = false ∧ W.cell? ⟨B + 1 + 1 + 1 + 1, 0, none⟩ = some pv ∧ W.frozen? ⟨B + 1 + 1 + 1 + 1, 0, none⟩ = false ∧ B + 7 ≤ W.heap.size
theorem PathCells.below {B : Nat} {k : Int} {rv ov pv : Value} {A C : World} (h : PathCells B k rv ov pv A) {N : Nat} (hN : B + 5 ≤ N) (hb : Below N A C) : PathCells B k rv ov pv C := by
  obtain ⟨h1, h2, h3, h4, h5, h6, h7, h8⟩ := h
  refine ⟨(hb.cell (p := ⟨B + 1, 0, none⟩) ?_).trans h1, (hb.cell (p := ⟨B + 1 + 1, 0, none⟩) ?_).trans h2, (hb.frozen (p := ⟨B + 1 + 1, 0, none⟩) ?_).trans h3, (hb.cell (p := ⟨B + 1 + 1 + 1, 0, none⟩) ?_).trans h4, (hb.frozen (p := ⟨B + 1 + 1 + 1, 0, none⟩) ?_).trans h5,
    (hb.cell (p := ⟨B + 1 + 1 + 1 + 1, 0, none⟩) ?_).trans h6, (hb.frozen (p := ⟨B + 1 + 1 + 1 + 1, 0, none⟩) ?_).trans h7, Nat.le_trans h8 hb.size⟩ <;> (dsimp only; omega)
theorem ownsRow_touch {B lo hi : Nat} {e : TypeId} {s : Nat} {v : Value} {n : Nat} {xs : List Value} {A C : World} (h : A.ownsRow B e s v n xs) (ht : Touch lo hi A C) (hh : hi ≤ B) : C.ownsRow B e s v n xs := by
  refine ⟨h.1, ?_⟩
  rcases h.2 with h2 | ⟨g, cap, cur, h1, h2, h3, h4⟩
  · exact .inl h2
  · exact .inr ⟨g, cap, cur, h1, h2, (ht.block g (Array.getElem?_eq_some_iff.1 h3).1 (.inr (by omega))).trans h3, h4⟩
/-- The numbers that have come, as values. -/
def vals (pre : List (Int × Int)) : List Value := pre.map fun x => .int .i64 x.2

theorem vals_snoc (pre : List (Int × Int)) (x : Int × Int) : vals (pre ++ [x]) = vals pre ++ [.int .i64 x.2] := by simp [vals]
/-- The path of k steps, if there is one. -/
def pathIf (t p n k : Int) : List Int := if (aft t p (nx t p) n k).2 = true then pathL (nx t p) n k.toNat else []

set_option maxRecDepth 100000 in
set_option maxHeartbeats 2000000 in
theorem path_any (t p n k : Int) (w : World) :
    Calls Try.prog 75 #[.agg #[.int .i64 t, .int .i64 p, .int .i64 n], .int .i64 k] w
      (RetPath (pathIf t p n k) (aft t p (nx t p) n k).2 w) := by
  obtain ⟨i0, hi, hi0, hi1, hi2⟩ := info_parts info3
  refine (callsIn_wide (n := 10)).1 ?_
  refine callsIn_of_wp_marks Try.func75 rfl trivial ?_ rfl
  simp only [Try.ntmps75, List.size_toArray, List.length_cons, List.length_nil, Nat.reduceAdd, Nat.reduceSub, Array.replicate_succ, Array.replicate_zero, List.push_toArray, List.append_toArray, List.nil_append, List.cons_append]
  gi_wp2_with (refine ⟨trivial, ?_⟩; gi_at_call 55; refine (callsIn_wide.2 (along_any t p n _ _)).mono ?_; rintro e w1 ⟨rfl, rfl⟩)
  have hcells : PathCells w.heap.size k (.slice none 0 0) (.bool false) (.slice none 0 0) (((((((w.alloc (Obj.cells #[Value.int IntKind.i64 t, Value.int IntKind.i64 p, Value.int IntKind.i64 n] 71)).alloc (Obj.cells #[Value.int IntKind.i64 k] 3)).alloc
      (Obj.cells #[Value.slice none 0 0] 31)).alloc (Obj.cells #[Value.bool false] 4)).alloc (Obj.cells #[Value.slice none 0 0] 31)).alloc
      (Obj.cells #[Value.int IntKind.i64 t, Value.int IntKind.i64 p, Value.int IntKind.i64 n] 71)).alloc (Obj.cells #[Value.func (Fn.func 56) #[] #[]] 73)) := by
    refine ⟨?_, ?_, ?_, ?_, ?_, ?_, ?_, ?_⟩ <;> go_simp
  have hcap : CapOf (w.heap.size + 1 + 1 + 1 + 1 + 1) (w.heap.size + 1 + 1 + 1 + 1 + 1 + 1) t p n 56 (((((((w.alloc (Obj.cells #[Value.int IntKind.i64 t, Value.int IntKind.i64 p, Value.int IntKind.i64 n] 71)).alloc (Obj.cells #[Value.int IntKind.i64 k] 3)).alloc
      (Obj.cells #[Value.slice none 0 0] 31)).alloc (Obj.cells #[Value.bool false] 4)).alloc (Obj.cells #[Value.slice none 0 0] 31)).alloc
      (Obj.cells #[Value.int IntKind.i64 t, Value.int IntKind.i64 p, Value.int IntKind.i64 n] 71)).alloc (Obj.cells #[Value.func (Fn.func 56) #[] #[]] 73)) := by
    refine ⟨?_, ?_, ?_, ?_, ?_, ?_⟩ <;> go_simp
  have hbel : Below w.heap.size w (((((((w.alloc (Obj.cells #[Value.int IntKind.i64 t, Value.int IntKind.i64 p, Value.int IntKind.i64 n] 71)).alloc (Obj.cells #[Value.int IntKind.i64 k] 3)).alloc
      (Obj.cells #[Value.slice none 0 0] 31)).alloc (Obj.cells #[Value.bool false] 4)).alloc (Obj.cells #[Value.slice none 0 0] 31)).alloc
      (Obj.cells #[Value.int IntKind.i64 t, Value.int IntKind.i64 p, Value.int IntKind.i64 n] 71)).alloc (Obj.cells #[Value.func (Fn.func 56) #[] #[]] 73)) := by
    refine (((((((Below.refl _ w).alloc ?_ _).alloc ?_ _).alloc ?_ _).alloc ?_ _).alloc ?_ _).alloc ?_ _).alloc ?_ _ <;> simp <;> omega
  generalize hw1 : (((((((w.alloc (Obj.cells #[Value.int IntKind.i64 t, Value.int IntKind.i64 p, Value.int IntKind.i64 n] 71)).alloc (Obj.cells #[Value.int IntKind.i64 k] 3)).alloc
      (Obj.cells #[Value.slice none 0 0] 31)).alloc (Obj.cells #[Value.bool false] 4)).alloc (Obj.cells #[Value.slice none 0 0] 31)).alloc
      (Obj.cells #[Value.int IntKind.i64 t, Value.int IntKind.i64 p, Value.int IntKind.i64 n] 71)).alloc (Obj.cells #[Value.func (Fn.func 56) #[] #[]] 73)) = w1 at *
  have hs1 : w1.heap.size = w.heap.size + 7 := by rw [← hw1]; simp
  clear hw1
  have hs2 : w.heap.size + 7 ≤ w1.heap.size := by omega
  have hs3 : w1.heap.size ≤ w.heap.size + 7 := by omega
  clear hs1
  refine wpIn_seq2 (gf := 70) (lb := #[.pointer (some ⟨w.heap.size + 1 + 1 + 1 + 1 + 1, 0, none⟩), .pointer (some ⟨w.heap.size + 1 + 1 + 1 + 1 + 1 + 1, 0, none⟩)]) rfl (enters_of Try.func70 (by kernel_rfl) rfl)
    (iter_step _ _ t p n) (fun A C h hb => h.below (by omega) (by omega) hb) hcap rfl
    (fun pre W => Below w.heap.size w W ∧ (∀ x ∈ pre, x.1 ≠ k) ∧ ∃ pv, PathCells w.heap.size k (.slice none 0 0) (.bool false) pv W ∧ W.ownsRow (w.heap.size + 9) 3 1 pv pre.length (vals pre))
    (fun c pre W => c = .ret ∧ Below w.heap.size w W ∧ (∃ pre0 v, pre = pre0 ++ [(k, v)]) ∧ ∃ pv qv, PathCells w.heap.size k pv (.bool true) qv W ∧ W.ownsRow (w.heap.size + 9) 3 1 pv pre.length (vals pre))
    ?hI ?hIx ⟨hbel, by simp, _, hcells, World.ownsRow_nil _ _ _ _⟩
    (fun x => { tmps := #[.agg #[.int .i64 t, .int .i64 p, .int .i64 n], .int .i64 k, .pointer (some ⟨w.heap.size, 0, none⟩), .pointer (some ⟨w.heap.size + 1, 0, none⟩), .pointer (some ⟨w.heap.size + 1 + 1, 0, none⟩), .pointer (some ⟨w.heap.size + 1 + 1 + 1, 0, none⟩), .pointer (some ⟨w.heap.size + 1 + 1 + 1 + 1, 0, none⟩), .int .i64 x.1, .int .i64 x.2, .agg #[.int .i64 t, .int .i64 p, .int .i64 n], .func (.func 70) #[] #[.pointer (some ⟨w.heap.size + 1 + 1 + 1 + 1 + 1, 0, none⟩), .pointer (some ⟨w.heap.size + 1 + 1 + 1 + 1 + 1 + 1, 0, none⟩)], .int .i64 x.1, .int .i64 x.2, undef, undef, undef, undef, undef, undef, undef, undef], defers := [] }) ?assign ?body ?done ?stop
  case hI =>
    rintro s A C ⟨h1, h2, pv, h3, h4⟩ ht
    have hb := ht.below (n := w1.heap.size) (Nat.le_refl _) (by have := h3.2.2.2.2.2.2.2; omega)
    exact ⟨h1.trans (hb.mono (by omega)), h2, pv, h3.below (by omega) hb, ownsRow_touch h4 ht (by omega)⟩
  case hIx =>
    rintro c s A C ⟨h0, h1, h2, pv, qv, h3, h4⟩ ht
    have hb := ht.below (n := w1.heap.size) (Nat.le_refl _) (by have := h3.2.2.2.2.2.2.2; omega)
    exact ⟨h0, h1.trans (hb.mono (by omega)), h2, pv, qv, h3.below (by omega) hb, ownsRow_touch h4 ht (by omega)⟩
  case assign =>
    intro l x W K hK
    gi_wp2
    exact hK
  case body =>
    rintro l pre x W0 W b ⟨h1, h2, pv, h3, h4⟩ ht hs0 hb0 hb1 hpre hcapW
    have hb := ht.below (n := w1.heap.size) (Nat.le_refl _) (by omega)
    have h3' := h3.below (N := w1.heap.size) (by omega) hb
    have h1' := h1.trans (hb.mono (by omega))
    have h4' := ownsRow_touch h4 ht (by omega)
    have hlen : pre.length + 1 ≤ 1001 := by
      have := hpre.length_le
      have := seqOf_length t p (nx t p) n
      simp at *
      omega
    have hgb : ∀ g, pv.ownBlock = some g → w.heap.size + 9 ≤ g ∧ g < W0.heap.size := fun g e => h4.lt g e
    have hWs : w.heap.size + 9 ≤ W.heap.size := by have := ht.size; omega
    have HGB := Lib.hid hgb
    have H2 := Lib.hid h2
    have HP := Lib.hid hpre
    have HC := Lib.hid hcapW
    have HR := Lib.hid h4'
    have hml : pre.length + 1 ≤ maxLen := by unfold maxLen; omega
    obtain ⟨q1, q2, q3, q4, q5, q6, q7, q8⟩ := h3'
    clear h1 h2 h3 h4 h4' hgb hpre hcapW hcells hbel hcap
    gi_wp2_with (gi_at_builtin; refine wpListIn_append_own _ rfl _ _ 31 rfl (w.heap.size + 9) 3 i0 (.int .i64 0) 1 8 Try.underlying31 hi hi0 hi1 hi2 rfl (by decide) _ _ _ rfl (HR.out.alloc _) ⟨W.heap.size, 0, none⟩ 1 1 [.int .i64 x.2] rfl rfl ?c1 ?c2 ?c3 ?c4 ?c5 ?_; rotate_right; intro v' w3 hown3 hgrow _; have hgrow' : (W.alloc (.cells #[.int .i64 x.2] 3)).grownBy w3 pv.ownBlock := hgrow; clear hgrow; obtain ⟨g3, cap3, rfl⟩ := ownsRow_succ hown3; have hbg : Below (w.heap.size + 9) W w3 := ((Below.refl (w.heap.size + 9) W).alloc hWs _).grown hgrow' (by simp; omega) (fun k e => (HGB.out k e).1); obtain ⟨z1, z2, z3, z4, z5, z6, z7, z8⟩ := PathCells.below ⟨q1, q2, q3, q4, q5, q6, q7, q8⟩ (N := w.heap.size + 9) (by omega) hbg; clear q1 q2 q3 q4 q5 q6 q7)
    case c1 => exact fun j u hu => new_cell _ _ _ hu
    case c2 => simp [Value.oneCell']
    case c3 => exact hml
    case c4 => omega
    case c5 => simp; omega
    · rename_i he
      have hk : x.1 = k := by simpa using he
      have hrow := (ownsRow_setCell_below (ownsRow_setCell_below (ownsRow_setCell_below hown3 (a := ⟨w.heap.size + 1 + 1 + 1 + 1, 0, none⟩) (by dsimp only; omega) (.slice (some ⟨g3, 0, none⟩) (pre.length + 1) cap3)) (a := ⟨w.heap.size + 1 + 1, 0, none⟩) (by dsimp only; omega) (.slice (some ⟨g3, 0, none⟩) (pre.length + 1) cap3)) (a := ⟨w.heap.size + 1 + 1 + 1, 0, none⟩) (by dsimp only; omega) (.bool true))
      have e1 : ∀ q, q ≠ w.heap.size + 1 + 1 → q ≠ w.heap.size + 1 + 1 + 1 → q ≠ w.heap.size + 1 + 1 + 1 + 1 → (((w3.setCell ⟨w.heap.size + 1 + 1 + 1 + 1, 0, none⟩ (.slice (some ⟨g3, 0, none⟩) (pre.length + 1) cap3)).setCell ⟨w.heap.size + 1 + 1, 0, none⟩ (.slice (some ⟨g3, 0, none⟩) (pre.length + 1) cap3)).setCell ⟨w.heap.size + 1 + 1 + 1, 0, none⟩ (.bool true)).heap[q]? = w3.heap[q]? := fun q h1 h2 h3 =>
        (Below.heap_setCell _ _ _ _ h2).trans ((Below.heap_setCell _ _ _ _ h1).trans (Below.heap_setCell _ _ _ _ h3))
      refine ⟨by have := hbg.size; simp [World.setCell]; omega, (e1 _ (by omega) (by omega) (by omega)).trans (hbg.block _ (by omega)), (e1 _ (by omega) (by omega) (by omega)).trans (hbg.block _ (by omega)), rfl,
        (((h1'.trans (hbg.mono (by omega))).setCell (p := ⟨w.heap.size + 1 + 1 + 1 + 1, 0, none⟩) (by dsimp only; omega) _).setCell (p := ⟨w.heap.size + 1 + 1, 0, none⟩) (by dsimp only; omega) _).setCell (p := ⟨w.heap.size + 1 + 1 + 1, 0, none⟩) (by dsimp only; omega) _,
        ⟨pre, x.2, by rw [← hk]⟩, .slice (some ⟨g3, 0, none⟩) (pre.length + 1) cap3, .slice (some ⟨g3, 0, none⟩) (pre.length + 1) cap3, ?_, ?_⟩
      · have hz8 := hbg.size
        refine ⟨?_, ?_, ?_, ?_, ?_, ?_, ?_, ?_⟩
        all_goals first | (go_simp; done) | (simp [World.setCell]; omega)
      · rw [vals_snoc, List.length_append]
        exact hrow
    · rename_i he
      have hk : x.1 ≠ k := by simpa using he
      have hrow := ownsRow_setCell_below hown3 (a := ⟨w.heap.size + 1 + 1 + 1 + 1, 0, none⟩) (by dsimp only; omega) (.slice (some ⟨g3, 0, none⟩) (pre.length + 1) cap3)
      have e1 : ∀ q, q ≠ w.heap.size + 1 + 1 + 1 + 1 → (w3.setCell ⟨w.heap.size + 1 + 1 + 1 + 1, 0, none⟩ (.slice (some ⟨g3, 0, none⟩) (pre.length + 1) cap3)).heap[q]? = w3.heap[q]? := fun q h3 => Below.heap_setCell _ _ _ _ h3
      have hbb : w3.heap[b]? = W.heap[b]? := (hgrow'.block b (by simp; omega) (fun e => by have := HGB.out b e.symm; omega)).trans (Below.heap_alloc _ _ _ hb1)
      have hbs := (Below.refl (w.heap.size + 9) w3)
      refine ⟨by have := hbg.size; simp [World.setCell]; omega, (e1 _ (by omega)).trans (hbg.block _ (by omega)), (e1 _ (by omega)).trans (hbg.block _ (by omega)), (e1 _ (by omega)).trans hbb, ?_,
        (h1'.trans (hbg.mono (by omega))).setCell (p := ⟨w.heap.size + 1 + 1 + 1 + 1, 0, none⟩) (by dsimp only; omega) _, ?_, .slice (some ⟨g3, 0, none⟩) (pre.length + 1) cap3, ?_, ?_⟩
      · obtain ⟨y1, y2, y3, y4, y5, y6⟩ := HC.out
        refine ⟨?_, ?_, ?_, ?_, ?_, ?_⟩
        · exact (World.cell?_of_block (a := ⟨_, 0, none⟩) (e1 _ (by dsimp only; omega))).trans ((hbg.cell (p := ⟨_, 0, none⟩) (by dsimp only; omega)).trans y1)
        · exact (World.cell?_of_block (a := ⟨_, 1, none⟩) (e1 _ (by dsimp only; omega))).trans ((hbg.cell (p := ⟨_, 1, none⟩) (by dsimp only; omega)).trans y2)
        · exact (World.cell?_of_block (a := ⟨_, 2, none⟩) (e1 _ (by dsimp only; omega))).trans ((hbg.cell (p := ⟨_, 2, none⟩) (by dsimp only; omega)).trans y3)
        · exact (World.cell?_of_block (a := ⟨_, 0, none⟩) (e1 _ (by dsimp only; omega))).trans ((hbg.cell (p := ⟨_, 0, none⟩) (by dsimp only; omega)).trans y4)
        · have := hbg.size; simp [World.setCell]; omega
        · have := hbg.size; simp [World.setCell]; omega
      · intro y hy
        rcases List.mem_append.1 hy with h | h
        · exact H2.out y h
        · obtain rfl : y = x := by simpa using h
          exact hk
      · have hz8 := hbg.size
        refine ⟨?_, ?_, ?_, ?_, ?_, ?_, ?_, ?_⟩
        all_goals first | (go_simp; done) | (simp [World.setCell]; omega)
      · rw [vals_snoc, List.length_append]
        exact hrow
  case done =>
    rintro W ⟨h1, h2, pv, ⟨q1, q2, q3, q4, q5, q6, q7, q8⟩, h4⟩ hK
    have hf := aft_of_none h2
    have hp : pathIf t p n k = [] := by rw [pathIf, hf]; rfl
    have HF := Lib.hid hf
    have HP := Lib.hid hp
    clear h2 h4 hf hp hcells hbel hcap
    gi_wp2
    have e1 : ∀ q, q ≠ w.heap.size + 1 + 1 → q ≠ w.heap.size + 1 + 1 + 1 → ((W.setCell ⟨w.heap.size + 1 + 1, 0, none⟩ (.slice none 0 0)).setCell ⟨w.heap.size + 1 + 1 + 1, 0, none⟩ (.bool false)).heap[q]? = W.heap[q]? := fun q h1 h2 =>
        (Below.heap_setCell _ _ _ _ h2).trans (Below.heap_setCell _ _ _ _ h1)
    have hK' := (e1 w1.heap.size (by omega) (by omega)).trans hK
    refine ⟨by simp, .inl ⟨_, _, rfl, run_takeDeferred hK', ?_⟩⟩
    rw [HF.out, HP.out]
    refine ⟨.tuple #[.slice none 0 0, .bool false], ?_, ⟨.slice none 0 0, rfl, World.ownsRow_nil _ _ _ _, ?_, fun _ => rfl⟩⟩
    · have hp := below_putObj (n := w1.heap.size) (l := w1.heap.size) ((W.setCell ⟨w.heap.size + 1 + 1, 0, none⟩ (.slice none 0 0)).setCell ⟨w.heap.size + 1 + 1 + 1, 0, none⟩ (.bool false)) (.deferred none) (Nat.le_refl _)
      have g1 := (hp.cell (p := ⟨w.heap.size + 1 + 1, 0, none⟩) (by dsimp only; omega)).trans (c := some (.slice none 0 0)) (by go_simp)
      have g2 := (hp.cell (p := ⟨w.heap.size + 1 + 1 + 1, 0, none⟩) (by dsimp only; omega)).trans (c := some (.bool false)) (by go_simp)
      simp [results, Try.f75, go_sem, g1, g2]
    · exact ((h1.setCell (p := ⟨w.heap.size + 1 + 1, 0, none⟩) (by dsimp only; omega) _).setCell (p := ⟨w.heap.size + 1 + 1 + 1, 0, none⟩) (by dsimp only; omega) _).trans (below_putObj _ _ (by omega))
  case stop =>
    rintro c pre W hpre ⟨rfl, h1, ⟨pre0, v, rfl⟩, pv, qv, ⟨q1, q2, q3, q4, q5, q6, q7, q8⟩, h4⟩ hK
    obtain ⟨hf, hv⟩ := aft_of_prefix hpre
    have hp : pathIf t p n k = pathL (nx t p) n k.toNat := by rw [pathIf, hf]; rfl
    have hrow : IntsAt W w.heap.size pv (pathL (nx t p) n k.toNat) := by
      have hm : vals (pre0 ++ [(k, v)]) = (pathL (nx t p) n k.toNat).map (Value.int .i64) := by
        rw [pathL, ← hv, vals, List.map_map]; rfl
      have hl : (pre0 ++ [(k, v)]).length = (pathL (nx t p) n k.toNat).length := by
        rw [pathL, ← hv, List.length_map]
      rw [hm, hl] at h4
      exact ownsRow_base h4 (by omega)
    have HF := Lib.hid hf
    have HP := Lib.hid hp
    have HROW := Lib.hid hrow
    clear hpre h4 hf hp hrow hv hcells hbel hcap
    gi_wp2
    refine ⟨by simp, .inl ⟨_, _, rfl, run_takeDeferred hK, ?_⟩⟩
    rw [HF.out, HP.out]
    refine ⟨.tuple #[pv, .bool true], ?_, ⟨pv, rfl, ownsRow_putObj HROW.out _ hK rfl, h1.trans (below_putObj _ _ (by omega)), fun e => ?_⟩⟩
    · have hp := below_putObj (n := w1.heap.size) (l := w1.heap.size) W (.deferred none) (Nat.le_refl _)
      have g1 := (hp.cell (p := ⟨w.heap.size + 1 + 1, 0, none⟩) (by dsimp only; omega)).trans q2
      have g2 := (hp.cell (p := ⟨w.heap.size + 1 + 1 + 1, 0, none⟩) (by dsimp only; omega)).trans q4
      simp [results, Try.f75, go_sem, g1, g2]
    · have := pathL_length (nx t p) n k.toNat
      rw [e] at this
      simp at this
end Go.Proofs.Ytponmblponfdaaa
