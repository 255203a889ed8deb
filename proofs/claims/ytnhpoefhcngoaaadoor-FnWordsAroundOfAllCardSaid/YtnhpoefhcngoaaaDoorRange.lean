/-
  A RANGE OVER A FUNCTION WITH TWO LOOP VARIABLES WHOSE ITERATOR KEEPS STATE OF ITS OWN IN CELLS: a contract and a law. No program: any.
  The iterator has m blocks of its own, the first that it lays; nobody else turns them while it runs; the caller's invariant abides that they are turned.
-/
import Derived.RangeFuncNested
import Derived.RangeFuncLeaves
import Derived.RangeFuncRecord
import Derived.RangeFuncSeq
import Derived.Shelf.Abstract
import Derived.Below
import Derived.Test.YtnhpoefhcngoaaaDoorTouch
namespace Go.Proofs.YtnhpoefhcngoaaaDoor
open Go.RowKit Go.Shelf
set_option linter.unusedVariables false

theorem Touch.putObj {lo hi : Nat} {A B : World} (h : Touch lo hi A B) {l : Nat} (h1 : lo ≤ l) (h2 : l < hi) (o : Obj) : Touch lo hi A (B.putObj l o) :=
  h.trans ⟨rfl, rfl, rfl, by simp, fun k hk hr => World.putObj_heap_other (by omega)⟩
theorem below_putObj {n l : Nat} (W : World) (o : Obj) (h : n ≤ l) : Below n W (W.putObj l o) :=
  ⟨rfl, rfl, rfl, by simp, fun k hk => World.putObj_heap_other (by omega)⟩

/-- THE ITERATOR's CONTRACT: it gives the pairs of S one after the other, till a round says 'no more'. Between two rounds it lays new blocks and turns none that lay there when the last round ended; one of those, b, the round must leave alone, and what the closure has captured (Cap). -/
def Seq2 (n : Nat) (P : Program) (gf : Nat) (lb : Array Value) (Cap : World → Prop) (S : List (Int × Int)) : Prop :=
  ∀ (l : Nat) (J Jx : List (Int × Int) → World → Prop) (W : World), Cap W →
    (∀ pre x W0 W1 b, J pre W0 → Below W0.heap.size W0 W1 → W0.heap.size ≤ b → b < W1.heap.size → (pre ++ [x]) <+: S → Cap W1 →
      YieldAt Fence.wide (n - 1) P l #[.int .i64 x.1, .int .i64 x.2] W1 fun e W' =>
        (e = .returned (.bool true) ∧ J (pre ++ [x]) W' ∧ W1.heap.size ≤ W'.heap.size ∧ W'.heap[b]? = W1.heap[b]? ∧ Cap W') ∨ (e = .returned (.bool false) ∧ Jx (pre ++ [x]) W')) →
    J [] W →
    CallsIn Fence.wide n P gf (#[.func (.yield l) #[] #[]] ++ lb) W fun e W' => (∃ v, e = .returned v) ∧ ∃ W0, Below W0.heap.size W0 W' ∧ (J S W0 ∨ ∃ pre, pre <+: S ∧ Jx pre W0)

/-- HOW THE BODY OF A ROUND MAY BE LEFT: lo, lo + 1: the loop's own two blocks; b: the iterator's. -/
def seqPost (lo b : Nat) (Cap : World → Prop) (I : List (Int × Int) → World → Prop) (Ix : Code → List (Int × Int) → World → Prop) (xs : List (Int × Int)) (W : World) : Exit → Act → World → Prop
  | .normal, _, W' => W.heap.size ≤ W'.heap.size ∧ W'.heap[lo]? = W.heap[lo]? ∧ W'.heap[lo + 1]? = W.heap[lo + 1]? ∧ W'.heap[b]? = W.heap[b]? ∧ Cap W' ∧ I xs W'
  | .ret, _, W' => W.heap.size ≤ W'.heap.size ∧ W'.heap[lo]? = W.heap[lo]? ∧ W'.heap[lo + 1]? = W.heap[lo + 1]? ∧ Ix .ret xs W'
  | .exit id, _, W' => W.heap.size ≤ W'.heap.size ∧ W'.heap[lo]? = W.heap[lo]? ∧ W'.heap[lo + 1]? = W.heap[lo + 1]? ∧ Ix (.exit id) xs W'
  | .goto t, _, W' => W.heap.size ≤ W'.heap.size ∧ W'.heap[lo]? = W.heap[lo]? ∧ W'.heap[lo + 1]? = W.heap[lo + 1]? ∧ Ix (.goto t) xs W'
  | .panic _, _, _ => False
  | .outgrown, _, _ => False

theorem wpIn_seq2 {n : Nat} {P : Program} {g : Operand} {ps : Array Tmp} {assign body : Code} {Q : Exit → Act → World → Prop} {a : Act} {w : World}
    {gf : Nat} {lb : Array Value} (hg : a.eval g = .func (.func gf) #[] lb) (eg : ∀ args w, (callFunc gf args).run P w = .ok (.enter gf args) w)
    {Cap : World → Prop} {S : List (Int × Int)} (hseq : Seq2 (n - 1) P gf lb Cap S)
    (hCap : ∀ A B, Cap A → Below w.heap.size A B → Cap B) (hcap : Cap w) (hps : ps.size = 2)
    (I : List (Int × Int) → World → Prop) (Ix : Code → List (Int × Int) → World → Prop)
    (hI : ∀ s A B, I s A → Touch w.heap.size (w.heap.size + 2) A B → I s B) (hIx : ∀ c s A B, Ix c s A → Touch w.heap.size (w.heap.size + 2) A B → Ix c s B)
    (h0 : I [] w) (a₁ : Int × Int → Act)
    (hassign : ∀ (l : Nat) (x : Int × Int) (W : World) (K : Act → World → Prop), K (a₁ x) W →
      assign.wpIn (Fence.wide.inRound l) (n - 1 - 1) P (Exit.then K (fun _ _ _ => False)) { tmps := (ps.zip #[.int .i64 x.1, .int .i64 x.2]).foldl (fun t (p, v) => t.setIfInBounds p v) a.tmps, defers := [] } W)
    (hbody : ∀ (l : Nat) (pre : List (Int × Int)) (x : Int × Int) (W0 W : World) (b : Nat), I pre W0 → Touch w.heap.size (w.heap.size + 2) W0 W → w.heap.size + 2 ≤ W0.heap.size → W0.heap.size ≤ b → b < W.heap.size → (pre ++ [x]) <+: S → Cap W →
      body.wpIn (Fence.wide.inRound l) (n - 1 - 1) P (seqPost w.heap.size b Cap I Ix (pre ++ [x]) W) (a₁ x) W)
    (hdone : ∀ (W : World), I S W → W.heap[w.heap.size]? = some (.deferred (some [])) → Q .normal { a with defers := { target := .collected w.heap.size, args := #[] } :: a.defers } W)
    (hstop : ∀ (c : Code) (pre : List (Int × Int)) (W : World), pre <+: S → Ix c pre W → W.heap[w.heap.size]? = some (.deferred (some [])) → c.wpIn Fence.wide n P Q { a with defers := { target := .collected w.heap.size, args := #[] } :: a.defers } W) :
    (Code.rangeFunc g ps assign body).wpIn Fence.wide n P Q a w := by
  refine wpIn_rangeFunc ?_
  intro fn hfn
  obtain ⟨rec, hrec⟩ : ∃ rec : LoopState → Option Code → Loop, rec = fun st pe => { state := st, pending := pe, fn, tmps := a.tmps, params := ps, assign, body, defers := w.heap.size } := ⟨_, rfl⟩
  obtain ⟨W1, hW1⟩ : ∃ W1, (w.alloc (.deferred (some []))).alloc (.loop (rec .ready none)) = W1 := ⟨_, rfl⟩
  have hs1 : W1.heap.size = w.heap.size + 2 := by rw [← hW1]; simp
  have hb1 : Below w.heap.size w W1 := by rw [← hW1]; exact ((Below.refl _ w).alloc (Nat.le_refl _) _).alloc (by simp) _
  have hL1 : W1.heap[w.heap.size + 1]? = some (.loop (rec .ready none)) := by
    rw [← hW1]; have := World.alloc_heap_new (w.alloc (.deferred (some []))) (.loop (rec .ready none)); rwa [World.size_alloc] at this
  have hK1 : W1.heap[w.heap.size]? = some (.deferred (some [])) := by
    rw [← hW1]; exact (Below.heap_alloc _ _ _ (by simp)).trans (World.alloc_heap_new w _)
  refine ⟨w.heap.size + 1, [{ target := .collected w.heap.size, args := #[] }], W1, { target := .fn (.func gf) lb, args := #[.func (.yield (w.heap.size + 1)) #[] #[]] }, W1, gf,
    #[.func (.yield (w.heap.size + 1)) #[] #[]] ++ lb, W1, ?_, ?_, fun _ _ => trivial, ?_, (fun h => by cases h), ?_⟩
  · rw [← hW1, hrec]; exact run_enterLoop_outer _ _ _ _ _
  · simp only [resolve, hg]
    simp [go_sem]
  · simp [invoke, go_sem, eg]
  · refine (hseq (w.heap.size + 1)
      (fun pre W => I pre W ∧ W.heap[w.heap.size + 1]? = some (.loop (rec .ready none)) ∧ W.heap[w.heap.size]? = some (.deferred (some [])))
      (fun pre W => ∃ c, Ix c pre W ∧ W.heap[w.heap.size + 1]? = some (.loop (rec .done (some c))) ∧ W.heap[w.heap.size]? = some (.deferred (some [])))
      W1 (hCap _ _ hcap hb1) ?_ ⟨hI _ _ _ h0 (Touch.of_below hb1), hL1, hK1⟩).mono ?_
    · rintro pre x W0 W b ⟨hi, hl0, hk0⟩ hbW hb0 hb1' hpre hcapW
      have hlt0 : w.heap.size + 1 < W0.heap.size := (Array.getElem?_eq_some_iff.1 hl0).1
      have hl := (hbW.block _ hlt0).trans hl0
      have hk := (hbW.block w.heap.size (by omega)).trans hk0
      have hlt : w.heap.size + 1 < W.heap.size := (Array.getElem?_eq_some_iff.1 hl).1
      have hy := run_yield (P := P) (args := #[.int .i64 x.1, .int .i64 x.2]) hl (by rw [hrec]; exact hps.symm)
      rw [hrec] at hy
      refine ⟨fn, _, assign, body, hy, roundIn_of_wpIn hfn (hassign _ x W _ ⟨_, run_beginRound hl (by rw [hrec]), ?_⟩)⟩
      obtain ⟨W2, hW2⟩ : ∃ W2, W.putObj (w.heap.size + 1) (.loop { rec .ready none with state := .busy }) = W2 := ⟨_, rfl⟩
      rw [hW2]
      have hs2 : W2.heap.size = W.heap.size := by rw [← hW2]; simp
      have hl2 : W2.heap[w.heap.size + 1]? = some (.loop { rec .ready none with state := .busy }) := by rw [← hW2]; exact World.putObj_heap_same hlt
      have hk2 : W2.heap[w.heap.size]? = some (.deferred (some [])) := by rw [← hW2]; exact (World.putObj_heap_other (by omega)).trans hk
      have ho2 : ∀ k, w.heap.size + 2 ≤ k → W2.heap[k]? = W.heap[k]? := fun k h => by rw [← hW2]; exact World.putObj_heap_other (by omega)
      have ht2 : Touch w.heap.size (w.heap.size + 2) W0 W2 := by rw [← hW2]; exact (Touch.of_below hbW).putObj (by omega) (by omega) _
      have hc2 : Cap W2 := by rw [← hW2]; exact hCap _ _ hcapW (below_putObj _ _ (by omega))
      refine wpIn_mono (hbody _ pre x W0 W2 b hi ht2 (by omega) hb0 (by omega) hpre hc2) ?_
      have fin : ∀ (jump : Option Code) (W3 : World), W3.heap[w.heap.size]? = W2.heap[w.heap.size]? → W3.heap[w.heap.size + 1]? = W2.heap[w.heap.size + 1]? →
          (Instr.endRound (w.heap.size + 1) jump).run P W3 = .ok (.bool jump.isNone) (W3.putObj (w.heap.size + 1) (.loop (rec (if jump.isNone then .ready else .done) jump))) ∧
          (W3.putObj (w.heap.size + 1) (.loop (rec (if jump.isNone then .ready else .done) jump))).heap[w.heap.size + 1]? = some (.loop (rec (if jump.isNone then .ready else .done) jump)) ∧
          (W3.putObj (w.heap.size + 1) (.loop (rec (if jump.isNone then .ready else .done) jump))).heap[w.heap.size]? = some (.deferred (some [])) := fun jump W3 hk3 hk4 => by
        have hl3 := hk4.trans hl2
        have := run_endRound (P := P) jump hl3
        rw [hrec] at this ⊢
        exact ⟨this, World.putObj_heap_same (Array.getElem?_eq_some_iff.1 hl3).1, (World.putObj_heap_other (by omega)).trans (hk3.trans hk2)⟩
      rintro e a3 W3 hp
      cases e with
      | normal =>
        obtain ⟨hz3, hd3, hr3, hb3, hc3, hi3⟩ := hp
        obtain ⟨hr, hl4, hk4⟩ := fin none W3 hd3 hr3
        refine ⟨_, _, hr, .inl ⟨rfl, ⟨hI _ _ _ hi3 ((Touch.refl _ _ _).putObj (by omega) (by omega) _), hl4, hk4⟩, by simp; omega, ?_, hCap _ _ hc3 (below_putObj _ _ (by omega))⟩⟩
        exact (World.putObj_heap_other (by omega)).trans (hb3.trans (ho2 b (by omega)))
      | ret =>
        obtain ⟨hz3, hd3, hr3, hi3⟩ := hp
        obtain ⟨hr, hl4, hk4⟩ := fin (some .ret) W3 hd3 hr3
        exact ⟨_, _, hr, .inr ⟨rfl, .ret, hIx _ _ _ _ hi3 ((Touch.refl _ _ _).putObj (by omega) (by omega) _), hl4, hk4⟩⟩
      | exit id =>
        obtain ⟨hz3, hd3, hr3, hi3⟩ := hp
        obtain ⟨hr, hl4, hk4⟩ := fin (some (.exit id)) W3 hd3 hr3
        exact ⟨_, _, hr, .inr ⟨rfl, .exit id, hIx _ _ _ _ hi3 ((Touch.refl _ _ _).putObj (by omega) (by omega) _), hl4, hk4⟩⟩
      | goto t =>
        obtain ⟨hz3, hd3, hr3, hi3⟩ := hp
        obtain ⟨hr, hl4, hk4⟩ := fin (some (.goto t)) W3 hd3 hr3
        exact ⟨_, _, hr, .inr ⟨rfl, .goto t, hIx _ _ _ _ hi3 ((Touch.refl _ _ _).putObj (by omega) (by omega) _), hl4, hk4⟩⟩
      | panic ch => exact hp.elim
      | outgrown => exact hp.elim
    · rintro e W2 ⟨⟨v, rfl⟩, W0, hbl, (⟨hi, hl0, hk0⟩ | ⟨pre, hpre, c, hi, hl0, hk0⟩)⟩
      · have hlt0 : w.heap.size + 1 < W0.heap.size := (Array.getElem?_eq_some_iff.1 hl0).1
        have hl := (hbl.block _ hlt0).trans hl0
        have hk := (hbl.block w.heap.size (by omega)).trans hk0
        exact ⟨none, _, by have := run_endLoop (P := P) hl (by rw [hrec]; simp); rw [hrec] at this; exact this, hdone _ (hI _ _ _ hi ((Touch.of_below hbl).putObj (by omega) (by omega) _)) ((World.putObj_heap_other (by omega)).trans hk)⟩
      · have hlt0 : w.heap.size + 1 < W0.heap.size := (Array.getElem?_eq_some_iff.1 hl0).1
        have hl := (hbl.block _ hlt0).trans hl0
        have hk := (hbl.block w.heap.size (by omega)).trans hk0
        exact ⟨some c, _, by have := run_endLoop (P := P) hl (by rw [hrec]; simp); rw [hrec] at this; exact this, hstop c pre _ hpre (hIx _ _ _ _ hi ((Touch.of_below hbl).putObj (by omega) (by omega) _)) ((World.putObj_heap_other (by omega)).trans hk)⟩
end Go.Proofs.YtnhpoefhcngoaaaDoor
