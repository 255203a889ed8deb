/-
  WHAT A CALL MAY TURN: some blocks, and what is new. No program.
-/
import Derived.Below
namespace Go.Proofs.Ytebbafapcknllaa
open Go.RowKit
set_option linter.unusedVariables false

/-- Nothing has turned but, perhaps, the blocks lo to hi - 1, and what is new. -/
structure Touch (lo hi : Nat) (W W' : World) : Prop where
  os : W'.os = W.os
  tape : W'.tape = W.tape
  output : W'.output = W.output
  size : W.heap.size ≤ W'.heap.size
  block : ∀ k, k < W.heap.size → (k < lo ∨ hi ≤ k) → W'.heap[k]? = W.heap[k]?
theorem Touch.refl (lo hi : Nat) (W : World) : Touch lo hi W W := ⟨rfl, rfl, rfl, Nat.le_refl _, fun _ _ _ => rfl⟩
theorem Touch.trans {lo hi : Nat} {A B C : World} (h : Touch lo hi A B) (k : Touch lo hi B C) : Touch lo hi A C :=
  ⟨k.os.trans h.os, k.tape.trans h.tape, k.output.trans h.output, Nat.le_trans h.size k.size, fun i hi hr => (k.block i (Nat.lt_of_lt_of_le hi h.size) hr).trans (h.block i hi hr)⟩
theorem Touch.wider {lo hi lo' hi' : Nat} {A B : World} (h : Touch lo hi A B) (hl : lo' ≤ lo) (hh : hi ≤ hi') : Touch lo' hi' A B :=
  ⟨h.os, h.tape, h.output, h.size, fun k hk hr => h.block k hk (by omega)⟩
theorem Touch.of_below {lo hi : Nat} {A B : World} (h : Below A.heap.size A B) : Touch lo hi A B :=
  ⟨h.os, h.tape, h.output, h.size, fun k hk _ => h.block k hk⟩
theorem Touch.alloc {lo hi : Nat} {A B : World} (h : Touch lo hi A B) (o : Obj) : Touch lo hi A (B.alloc o) :=
  h.trans (Touch.of_below ((Below.refl _ B).alloc (Nat.le_refl _) o))
theorem Touch.setCell {lo hi : Nat} {A B : World} (h : Touch lo hi A B) {p : Addr} (h1 : lo ≤ p.block) (h2 : p.block < hi) (u : Value) : Touch lo hi A (B.setCell p u) :=
  h.trans ⟨rfl, rfl, rfl, by simp [World.setCell], fun k hk hr => Below.heap_setCell _ _ _ _ (by omega)⟩
theorem Touch.below {lo hi : Nat} {A B : World} (h : Touch lo hi A B) {n : Nat} (hn : n ≤ lo) (hs : n ≤ A.heap.size) : Below n A B :=
  ⟨h.os, h.tape, h.output, h.size, fun k hk => h.block k (by omega) (by omega)⟩
end Go.Proofs.Ytebbafapcknllaa
