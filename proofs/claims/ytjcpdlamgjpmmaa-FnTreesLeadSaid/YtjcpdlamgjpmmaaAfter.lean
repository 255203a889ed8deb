/-
  'after': what is behind so many steps of a walk.
  WHAT IS BEHIND SO MANY STEPS: plain lemmas over the leaves.
  'NextNumber', 'ShortNext', 'NumberAfter', 'ShortAfter' of the program; 'NextNumber', 'ShortNext', 'ShortAfter' of the model.
-/
import Derived.Test.YtjcpdlamgjpmmaaRange
import Derived.Test.YtjcpdlamgjpmmaaLeaf
namespace Go.Proofs.Ytjcpdlamgjpmmaa
open Go.RowKit Go.Shelf
attribute [local go_sem] Oper.semAt_some
set_option linter.unusedVariables false

/-- What is found behind k steps. -/
def found (S : List (Int × Int)) (k : Int) : Int × Bool :=
  match S.find? (fun x => x.1 == k) with
  | some x => (x.2, true)
  | none => (0, false)
theorem found_none {S : List (Int × Int)} {k : Int} (h : ∀ x ∈ S, x.1 ≠ k) : found S k = (0, false) := by
  have : S.find? (fun x => x.1 == k) = none := by rw [List.find?_eq_none]; intro x hx; simpa using h x hx
  rw [found, this]
theorem found_some {S pre : List (Int × Int)} {k v : Int} (h : ∀ x ∈ pre, x.1 ≠ k) (hp : (pre ++ [(k, v)]) <+: S) : found S k = (v, true) := by
  obtain ⟨rest, rfl⟩ := hp
  have : ((pre ++ [(k, v)]) ++ rest).find? (fun x => x.1 == k) = some (k, v) := by
    have hn : pre.find? (fun x => x.1 == k) = none := by rw [List.find?_eq_none]; intro x hx; simpa using h x hx
    rw [List.append_assoc, List.find?_append, hn]; simp
  rw [found, this]

/-- The cells of a call of 'after': its argument 'steps' and its two results. -/
def AfterCells (B : Nat) (k : Int) (rv ov : Value) (W : World) : Prop :=
  W.cell? ⟨B + 1, 0, none⟩ = some (.int .i64 k) ∧ W.cell? ⟨B + 1 + 1, 0, none⟩ = some rv ∧ W.frozen? ⟨B + 1 + 1, 0, none⟩ = false ∧
  W.cell? ⟨B + 1 + 1 + 1, 0, none⟩ = some ov ∧ W.frozen? ⟨B + 1 + 1 + 1, 0, none⟩ = false ∧ B + 6 ≤ W.heap.size
theorem AfterCells.below {B : Nat} {k : Int} {rv ov : Value} {A C : World} (h : AfterCells B k rv ov A) {N : Nat} (hN : B + 4 ≤ N) (hb : Below N A C) : AfterCells B k rv ov C := by
  obtain ⟨h1, h2, h3, h4, h5, h6⟩ := h
  refine ⟨(hb.cell (p := ⟨B + 1, 0, none⟩) ?_).trans h1, (hb.cell (p := ⟨B + 1 + 1, 0, none⟩) ?_).trans h2, (hb.frozen (p := ⟨B + 1 + 1, 0, none⟩) ?_).trans h3, (hb.cell (p := ⟨B + 1 + 1 + 1, 0, none⟩) ?_).trans h4, (hb.frozen (p := ⟨B + 1 + 1 + 1, 0, none⟩) ?_).trans h5, Nat.le_trans h6 hb.size⟩ <;> (dsimp only; omega)

set_option maxRecDepth 100000 in
set_option maxHeartbeats 2000000 in
theorem after_any (t p n k : Int) (fs : Nat) (S : List (Int × Int)) (hseq : ∀ bw bs, Seq2 9 Try.prog 79 #[.pointer (some ⟨bw, 0, none⟩), .pointer (some ⟨bs, 0, none⟩)] (CapOf bw bs t p n fs) S) (w : World) :
    Calls Try.prog 42 #[.agg #[.int .i64 t, .int .i64 p, .int .i64 n], .int .i64 k, .func (.func fs) #[] #[]] w fun e w' =>
      e = .returned (.tuple #[.int .i64 (found S k).1, .bool (found S k).2]) ∧ Below w.heap.size w w' := by
  refine (callsIn_wide (n := 10)).1 ?_
  refine callsIn_of_wp_marks Try.func42 rfl trivial ?_ rfl
  simp only [Try.ntmps42, List.size_toArray, List.length_cons, List.length_nil, Nat.reduceAdd, Nat.reduceSub, Array.replicate_succ, Array.replicate_zero, List.push_toArray, List.append_toArray, List.nil_append, List.cons_append]
  gi_wp2_with (refine ⟨trivial, ?_⟩; gi_at_call 67; refine (callsIn_wide.2 (along_any t p n fs _)).mono ?_; rintro e w1 ⟨rfl, rfl⟩)
  have hcells : AfterCells w.heap.size k (.int .i64 0) (.bool false) ((((((w.alloc (Obj.cells #[Value.int IntKind.i64 t, Value.int IntKind.i64 p, Value.int IntKind.i64 n] 54)).alloc
                      (Obj.cells #[Value.int IntKind.i64 k] 3)).alloc (Obj.cells #[Value.int IntKind.i64 0] 3)).alloc (Obj.cells #[Value.bool false] 4)).alloc
          (Obj.cells #[Value.int IntKind.i64 t, Value.int IntKind.i64 p, Value.int IntKind.i64 n] 54)).alloc (Obj.cells #[Value.func (Fn.func fs) #[] #[]] 56)) := by
    refine ⟨?_, ?_, ?_, ?_, ?_, ?_⟩ <;> go_simp
  have hcap : CapOf (w.heap.size + 1 + 1 + 1 + 1) (w.heap.size + 1 + 1 + 1 + 1 + 1) t p n fs ((((((w.alloc (Obj.cells #[Value.int IntKind.i64 t, Value.int IntKind.i64 p, Value.int IntKind.i64 n] 54)).alloc
                      (Obj.cells #[Value.int IntKind.i64 k] 3)).alloc (Obj.cells #[Value.int IntKind.i64 0] 3)).alloc (Obj.cells #[Value.bool false] 4)).alloc
          (Obj.cells #[Value.int IntKind.i64 t, Value.int IntKind.i64 p, Value.int IntKind.i64 n] 54)).alloc (Obj.cells #[Value.func (Fn.func fs) #[] #[]] 56)) := by
    refine ⟨?_, ?_, ?_, ?_, ?_, ?_⟩ <;> go_simp
  have hbel : Below w.heap.size w ((((((w.alloc (Obj.cells #[Value.int IntKind.i64 t, Value.int IntKind.i64 p, Value.int IntKind.i64 n] 54)).alloc
                      (Obj.cells #[Value.int IntKind.i64 k] 3)).alloc (Obj.cells #[Value.int IntKind.i64 0] 3)).alloc (Obj.cells #[Value.bool false] 4)).alloc
          (Obj.cells #[Value.int IntKind.i64 t, Value.int IntKind.i64 p, Value.int IntKind.i64 n] 54)).alloc (Obj.cells #[Value.func (Fn.func fs) #[] #[]] 56)) := by
    refine ((((((Below.refl _ w).alloc ?_ _).alloc ?_ _).alloc ?_ _).alloc ?_ _).alloc ?_ _).alloc ?_ _ <;> simp <;> omega
  generalize hw1 : ((((((w.alloc (Obj.cells #[Value.int IntKind.i64 t, Value.int IntKind.i64 p, Value.int IntKind.i64 n] 54)).alloc
                      (Obj.cells #[Value.int IntKind.i64 k] 3)).alloc (Obj.cells #[Value.int IntKind.i64 0] 3)).alloc (Obj.cells #[Value.bool false] 4)).alloc
          (Obj.cells #[Value.int IntKind.i64 t, Value.int IntKind.i64 p, Value.int IntKind.i64 n] 54)).alloc (Obj.cells #[Value.func (Fn.func fs) #[] #[]] 56)) = w1 at *
  have hs1 : w1.heap.size = w.heap.size + 6 := by rw [← hw1]; simp
  clear hw1
  have HS := Lib.hid hs1
  have hs2 : w.heap.size + 6 ≤ w1.heap.size := by omega
  have hs3 : w1.heap.size ≤ w.heap.size + 6 := by omega
  clear hs1
  refine wpIn_seq2 (gf := 79) (lb := #[.pointer (some ⟨w.heap.size + 1 + 1 + 1 + 1, 0, none⟩), .pointer (some ⟨w.heap.size + 1 + 1 + 1 + 1 + 1, 0, none⟩)]) rfl (enters_of Try.func79 (by kernel_rfl) rfl)
    (hseq _ _) (fun A C h hb => h.below (by omega) (by omega) hb) hcap rfl
    (fun pre W => AfterCells w.heap.size k (.int .i64 0) (.bool false) W ∧ Below w.heap.size w W ∧ ∀ x ∈ pre, x.1 ≠ k)
    (fun c pre W => c = .ret ∧ Below w.heap.size w W ∧ ∃ v, AfterCells w.heap.size k (.int .i64 v) (.bool true) W ∧ found S k = (v, true))
    ?hI ?hIx ⟨hcells, hbel, by simp⟩
    (fun x => { tmps := #[.agg #[.int .i64 t, .int .i64 p, .int .i64 n], .int .i64 k, .func (.func fs) #[] #[], .pointer (some ⟨w.heap.size, 0, none⟩), .pointer (some ⟨w.heap.size + 1, 0, none⟩), undef,
      .pointer (some ⟨w.heap.size + 1 + 1, 0, none⟩), .pointer (some ⟨w.heap.size + 1 + 1 + 1, 0, none⟩), .int .i64 x.1, .int .i64 x.2, .agg #[.int .i64 t, .int .i64 p, .int .i64 n], .func (.func fs) #[] #[],
      .func (.func 79) #[] #[.pointer (some ⟨w.heap.size + 1 + 1 + 1 + 1, 0, none⟩), .pointer (some ⟨w.heap.size + 1 + 1 + 1 + 1 + 1, 0, none⟩)], .int .i64 x.1, .int .i64 x.2, undef, undef, undef, undef], defers := [] }) ?assign ?body ?done ?stop
  case hI =>
    rintro s A C ⟨h1, h2, h3⟩ ht
    have hb := ht.below (n := w1.heap.size) (Nat.le_refl _) (by have := h1.2.2.2.2.2; omega)
    exact ⟨h1.below (by omega) hb, h2.trans (hb.mono (by omega)), h3⟩
  case hIx =>
    rintro c s A C ⟨h0, h2, v, h1, h3⟩ ht
    have hb := ht.below (n := w1.heap.size) (Nat.le_refl _) (by have := h1.2.2.2.2.2; omega)
    exact ⟨h0, h2.trans (hb.mono (by omega)), v, h1.below (by omega) hb, h3⟩
  case assign =>
    intro l x W K hK
    gi_wp2
    exact hK
  case body =>
    rintro l pre x W0 W b ⟨h1, h2, h3⟩ ht hs0 hb0 hb1 hpre hcapW
    have hb := ht.below (n := w1.heap.size) (Nat.le_refl _) (by omega)
    have h1' := h1.below (N := w1.heap.size) (by omega) hb
    have h2' := h2.trans (hb.mono (by omega))
    have H3 := Lib.hid h3
    have HP := Lib.hid hpre
    have HC := Lib.hid hcapW
    have HH := Lib.hid h1'
    obtain ⟨q1, q2, q3, q4, q5, q6⟩ := h1'
    clear h1 h2 h3 hpre hcapW hcells hbel hcap hseq
    gi_wp2
    · rename_i he
      have hk : x.1 = k := by simpa using he
      have e1 : ∀ q, q ≠ w.heap.size + 1 + 1 → q ≠ w.heap.size + 1 + 1 + 1 → ((W.setCell ⟨w.heap.size + 1 + 1, 0, none⟩ (.int .i64 x.2)).setCell ⟨w.heap.size + 1 + 1 + 1, 0, none⟩ (.bool true)).heap[q]? = W.heap[q]? := fun q h1 h2 =>
        (Below.heap_setCell _ _ _ _ h2).trans (Below.heap_setCell _ _ _ _ h1)
      refine ⟨by simp [World.setCell], e1 _ (by omega) (by omega), e1 _ (by omega) (by omega), rfl, (h2'.setCell (p := ⟨w.heap.size + 1 + 1, 0, none⟩) (by dsimp only; omega) _).setCell (p := ⟨w.heap.size + 1 + 1 + 1, 0, none⟩) (by dsimp only; omega) _, x.2, ?_, ?_⟩
      · refine ⟨?_, ?_, ?_, ?_, ?_, ?_⟩
        all_goals first | (go_simp; done) | (simp [World.setCell]; omega)
      · have hx : x = (k, x.2) := by rw [← hk]
        have hp := HP.out
        rw [hx] at hp
        exact found_some H3.out hp
    · rename_i he
      have hk : x.1 ≠ k := by simpa using he
      refine ⟨Nat.le_refl _, rfl, rfl, rfl, HC.out, HH.out, h2', ?_⟩
      intro y hy
      rcases List.mem_append.1 hy with h | h
      · exact H3.out y h
      · obtain rfl : y = x := by simpa using h
        exact hk
  case done =>
    rintro W ⟨h1, h2, h3⟩ hK
    obtain ⟨q1, q2, q3, q4, q5, q6⟩ := h1
    have hf : found S k = (0, false) := found_none h3
    have HF := Lib.hid hf
    clear h3 hf hcells hbel hcap hseq
    gi_wp2
    have e1 : ∀ q, q ≠ w.heap.size + 1 + 1 → q ≠ w.heap.size + 1 + 1 + 1 → ((W.setCell ⟨w.heap.size + 1 + 1, 0, none⟩ (.int .i64 0)).setCell ⟨w.heap.size + 1 + 1 + 1, 0, none⟩ (.bool false)).heap[q]? = W.heap[q]? := fun q h1 h2 =>
        (Below.heap_setCell _ _ _ _ h2).trans (Below.heap_setCell _ _ _ _ h1)
    have hK' := (e1 w1.heap.size (by omega) (by omega)).trans hK
    refine ⟨by simp, .inl ⟨_, _, rfl, run_takeDeferred hK', ?_⟩⟩
    refine ⟨.tuple #[.int .i64 0, .bool false], ?_, by rw [HF.out], ?_⟩
    · have hp := below_putObj (n := w1.heap.size) (l := w1.heap.size) ((W.setCell ⟨w.heap.size + 1 + 1, 0, none⟩ (.int .i64 0)).setCell ⟨w.heap.size + 1 + 1 + 1, 0, none⟩ (.bool false)) (.deferred none) (Nat.le_refl _)
      have g1 := (hp.cell (p := ⟨w.heap.size + 1 + 1, 0, none⟩) (by dsimp only; omega)).trans (c := some (.int .i64 0)) (by go_simp)
      have g2 := (hp.cell (p := ⟨w.heap.size + 1 + 1 + 1, 0, none⟩) (by dsimp only; omega)).trans (c := some (.bool false)) (by go_simp)
      simp [results, Try.f42, go_sem, g1, g2]
    · exact ((h2.setCell (p := ⟨w.heap.size + 1 + 1, 0, none⟩) (by dsimp only; omega) _).setCell (p := ⟨w.heap.size + 1 + 1 + 1, 0, none⟩) (by dsimp only; omega) _).trans (below_putObj _ _ (by omega))
  case stop =>
    rintro c pre W hpre ⟨rfl, h2, v, h1, h3⟩ hK
    obtain ⟨q1, q2, q3, q4, q5, q6⟩ := h1
    have HF := Lib.hid h3
    clear h3 hcells hbel hcap hseq
    gi_wp2
    refine ⟨by simp, .inl ⟨_, _, rfl, run_takeDeferred hK, ?_⟩⟩
    refine ⟨.tuple #[.int .i64 v, .bool true], ?_, by rw [HF.out], h2.trans (below_putObj _ _ (by omega))⟩
    have hp := below_putObj (n := w1.heap.size) (l := w1.heap.size) W (.deferred none) (Nat.le_refl _)
    have g1 := (hp.cell (p := ⟨w.heap.size + 1 + 1, 0, none⟩) (by dsimp only; omega)).trans q2
    have g2 := (hp.cell (p := ⟨w.heap.size + 1 + 1 + 1, 0, none⟩) (by dsimp only; omega)).trans q4
    simp [results, Try.f42, go_sem, g1, g2]
end Go.Proofs.Ytjcpdlamgjpmmaa

namespace Go.Proofs.Ytjcpdlamgjpmmaa
open Go.RowKit
set_option linter.unusedVariables false

/-- What is behind k steps of a kind, and whether it is there. -/
def aft (t p : Int) (f : Int → Int) (n k : Int) : Int × Bool :=
  if askB t p n k = true ∧ allB f n (k.toNat + 1) = true then (itr f k.toNat n, true) else (0, false)

theorem mem_upto {f : Int → Int} {n : Int} {K : Nat} {x : Int × Int} (h : x ∈ upto f n K) : ∃ j : Nat, j < K ∧ x = ((j : Int), itr f j n) := by
  simp only [upto, List.mem_map, List.mem_range] at h
  obtain ⟨j, hj, rfl⟩ := h
  exact ⟨j, hj, rfl⟩
/-- Behind one step. -/
theorem aft_one {t p : Int} {f : Int → Int} {n : Int} (hg : goodB t p = true) (hn : numB n = true) : aft t p f n 1 = (if numB (f n) = true then f n else 0, numB (f n)) := by
  have ha : askB t p n 1 = true := by simp [askB, inB, hg, hn]
  have hl : allB f n ((1 : Int).toNat + 1) = numB (f n) := by
    show allB f n 2 = _
    rw [show (2 : Nat) = 1 + 1 from rfl, allB_succ, allB_succ]
    simp [allB, itr, hn]
  unfold aft
  rw [ha, hl]
  by_cases h : numB (f n) = true
  · simp [h, itr]
  · simp [h]
theorem aft_not {t p : Int} {f : Int → Int} {n k : Int} (h : goodB t p = false ∨ numB n = false) : aft t p f n k = (0, false) := by
  unfold aft
  rw [if_neg]
  rintro ⟨ha, _⟩
  simp only [askB, Bool.and_eq_true] at ha
  rcases h with h | h <;> simp [h] at ha

/-- A part of what a walk gives that ends at k: its numbers are the path of k steps. -/
theorem aft_of_prefix {t p : Int} {f : Int → Int} {n k v : Int} {pre : List (Int × Int)} (hp : (pre ++ [(k, v)]) <+: seqOf t p f n) :
    (aft t p f n k).2 = true ∧ (pre ++ [(k, v)]).map (·.2) = (List.range (k.toNat + 1)).map (fun (i : Nat) => itr f i n) := by
  unfold seqOf at hp
  split at hp
  · rename_i hg
    obtain ⟨he, hl⟩ := prefix_upto hp
    have hlen : (pre ++ [(k, v)]).length = pre.length + 1 := by simp
    rw [hlen] at he hl
    have hk : (k, v) = ((pre.length : Int), itr f pre.length n) := by
      rw [upto_succ] at he
      have := List.append_inj_right' he rfl
      simpa using this
    have hk1 : k = (pre.length : Int) := congrArg Prod.fst hk
    have hc := (lt_cnt f 1001 n pre.length).1 (by omega)
    have hn : numB n = true := allB_at (f := f) (n := n) (j := 0) (k := pre.length + 1) (by omega) hc.2
    have ht : k.toNat = pre.length := by omega
    refine ⟨?_, ?_⟩
    · unfold aft
      rw [if_pos ⟨by simp only [askB, inB, Bool.and_eq_true, decide_eq_true_eq]; exact ⟨⟨hg, hn⟩, by omega⟩, by rw [ht]; exact hc.2⟩]
    · rw [he, ht, upto, List.map_map]; rfl
  · obtain ⟨r, hr⟩ := hp
    simp at hr
theorem aft_of_none {t p : Int} {f : Int → Int} {n k : Int} (h : ∀ x ∈ seqOf t p f n, x.1 ≠ k) : (aft t p f n k).2 = false := by
  unfold aft
  split
  · rename_i ha
    exfalso
    obtain ⟨hk, hl⟩ := ha
    simp only [askB, inB, Bool.and_eq_true, decide_eq_true_eq] at hk
    have hlt : k.toNat < cntF f 1001 n := (lt_cnt _ _ _ _).2 ⟨by omega, hl⟩
    refine h ((k.toNat : Int), itr f k.toNat n) ?_ (by dsimp only; omega)
    rw [seqOf, if_pos hk.1.1, upto, List.mem_map]
    exact ⟨k.toNat, by simpa using hlt, rfl⟩
  · rfl
theorem seqOf_length (t p : Int) (f : Int → Int) (n : Int) : (seqOf t p f n).length ≤ 1001 := by
  unfold seqOf
  split
  · rw [upto_length]
    by_cases h : cntF f 1001 n ≤ 1001
    · exact h
    · have := (lt_cnt f 1001 n 1001).1 (by omega)
      omega
  · simp
end Go.Proofs.Ytjcpdlamgjpmmaa

namespace Go.Proofs.Ytjcpdlamgjpmmaa
open Go.RowKit Go.Shelf
set_option linter.unusedVariables false

theorem found_seq (t p : Int) (f : Int → Int) (n k : Int) : found (seqOf t p f n) k = aft t p f n k := by
  unfold aft
  by_cases h : askB t p n k = true ∧ allB f n (k.toNat + 1) = true
  · rw [if_pos h]
    obtain ⟨ha, hl⟩ := h
    simp only [askB, inB, Bool.and_eq_true, decide_eq_true_eq] at ha
    have hlt : k.toNat < cntF f 1001 n := (lt_cnt _ _ _ _).2 ⟨by omega, hl⟩
    have hk : k = (k.toNat : Int) := by omega
    have hp : (upto f n k.toNat ++ [(k, itr f k.toNat n)]) <+: seqOf t p f n := by
      rw [seqOf, if_pos ha.1.1]
      have := upto_prefix f n (j := k.toNat + 1) (k := cntF f 1001 n) (by omega)
      rw [upto_succ, ← hk] at this
      exact this
    refine found_some ?_ hp
    intro x hx
    obtain ⟨j, hj, rfl⟩ := mem_upto hx
    dsimp only
    omega
  · rw [if_neg h]
    refine found_none ?_
    intro x hx hk
    unfold seqOf at hx
    split at hx
    · rename_i hg
      obtain ⟨j, hj, rfl⟩ := mem_upto hx
      have hj' := (lt_cnt _ _ _ _).1 hj
      dsimp only at hk
      obtain rfl : j = k.toNat := by omega
      refine h ⟨?_, hj'.2⟩
      have hn : numB n = true := allB_at (f := f) (n := n) (j := 0) (k := k.toNat + 1) (by omega) hj'.2
      simp only [askB, inB, Bool.and_eq_true, decide_eq_true_eq]
      exact ⟨⟨hg, hn⟩, by omega⟩
    · simp at hx

theorem iNumberAfter (t p n k : Int) (w : World) :
    Calls Try.prog 41 #[.agg #[.int .i64 t, .int .i64 p], .int .i64 n, .int .i64 k] w fun e w' =>
      e = .returned (.tuple #[.int .i64 (aft t p (nx t p) n k).1, .bool (aft t p (nx t p) n k).2]) ∧ Below w.heap.size w w' := by
  rw [← found_seq]
  go_enter Try.func41, Try.ntmps41
  go_wp2_with fail
  refine (after_any t p n k 66 (seqOf t p (nx t p) n) (fun bw bs => iter_step bw bs t p n) _).mono ?_
  rintro e w1 ⟨rfl, hb⟩
  go_wp2_with fail
  go_ret2
  exact ⟨rfl, ((Below.refl _ w).alloc (Nat.le_refl _) _).trans (hb.mono (by simp))⟩

theorem iShortAfter (t p n k : Int) (w : World) :
    Calls Try.prog 13 #[.agg #[.int .i64 t, .int .i64 p], .int .i64 n, .int .i64 k] w fun e w' =>
      e = .returned (.tuple #[.int .i64 (aft t p (sx t p) n k).1, .bool (aft t p (sx t p) n k).2]) ∧ Below w.heap.size w w' := by
  rw [← found_seq]
  go_enter Try.func13, Try.ntmps13
  go_wp2_with fail
  refine (after_any t p n k 43 (seqOf t p (sx t p) n) (fun bw bs => iter_short bw bs t p n) _).mono ?_
  rintro e w1 ⟨rfl, hb⟩
  go_wp2_with fail
  go_ret2
  exact ⟨rfl, ((Below.refl _ w).alloc (Nat.le_refl _) _).trans (hb.mono (by simp))⟩

theorem iNextNumber (t p n : Int) (w : World) :
    Calls Try.prog 11 #[.agg #[.int .i64 t, .int .i64 p], .int .i64 n] w fun e w' =>
      e = .returned (.tuple #[.int .i64 (aft t p (nx t p) n 1).1, .bool (aft t p (nx t p) n 1).2]) ∧ Below w.heap.size w w' := by
  go_enter Try.func11, Try.ntmps11
  go_wp2_with fail
  refine (iNumberAfter t p n 1 _).mono ?_
  rintro e w1 ⟨rfl, hb⟩
  go_wp2_with fail
  go_ret2
  exact ⟨rfl, ((Below.refl _ w).alloc (Nat.le_refl _) _).trans (hb.mono (by simp))⟩

theorem iShortNext (t p n : Int) (w : World) :
    Calls Try.prog 27 #[.agg #[.int .i64 t, .int .i64 p], .int .i64 n] w fun e w' =>
      e = .returned (.tuple #[.int .i64 (aft t p (sx t p) n 1).1, .bool (aft t p (sx t p) n 1).2]) ∧ Below w.heap.size w w' := by
  go_enter Try.func27, Try.ntmps27
  go_wp2_with fail
  refine (iShortAfter t p n 1 _).mono ?_
  rintro e w1 ⟨rfl, hb⟩
  go_wp2_with fail
  go_ret2
  exact ⟨rfl, ((Below.refl _ w).alloc (Nat.le_refl _) _).trans (hb.mono (by simp))⟩

end Go.Proofs.Ytjcpdlamgjpmmaa
