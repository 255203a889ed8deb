/-
  'LowTerms': two rows that grow side by side; the mathematics.
-/
import Derived.Test.YthafciggchdmpaaMad
import Derived.Test.YthafciggchdmpaaBx
import Derived.Test.YthafciggchdmpaaGcdU
import Derived.Maps.AppendAt
namespace Go.Proofs.Ythafciggchdmpaa
open Go.RowKit
set_option linter.unusedVariables false

/-- The greatest common divisor of fraction number i. -/
def gcI (ns ds : List Int) (i : Nat) : Int := (Int.gcd (ns.getD i 0) (ds.getD i 0) : Nat)
/-- The first j numerators, denominators, in lowest terms. -/
def lwN (ns ds : List Int) (j : Nat) : List Int := (List.range j).map fun i => ns.getD i 0 / gcI ns ds i
def lwD (ns ds : List Int) (j : Nat) : List Int := (List.range j).map fun i => ds.getD i 0 / gcI ns ds i
theorem lwN_succ (ns ds : List Int) (j : Nat) : lwN ns ds (j + 1) = lwN ns ds j ++ [ns.getD j 0 / gcI ns ds j] := by simp [lwN, List.range_succ]
theorem lwD_succ (ns ds : List Int) (j : Nat) : lwD ns ds (j + 1) = lwD ns ds j ++ [ds.getD j 0 / gcI ns ds j] := by simp [lwD, List.range_succ]
theorem lwN_len (ns ds : List Int) (j : Nat) : (lwN ns ds j).length = j := by simp [lwN]
theorem lwD_len (ns ds : List Int) (j : Nat) : (lwD ns ds j).length = j := by simp [lwD]
theorem lowT_pos {a b : Int} (h1 : 1 ≤ a) (h2 : 1 ≤ b) : lowT a b = (a / (Int.gcd a b : Nat), b / (Int.gcd a b : Nat)) := by
  rw [lowT, if_neg (by omega), Int.tdiv_eq_ediv_of_nonneg (by omega), Int.tdiv_eq_ediv_of_nonneg (by omega)]
/-- What LowTerms tells. -/
def lwtN (ns ds : List Int) : List Int := if maB ns ds = true then lwN ns ds ns.length else []
def lwtD (ns ds : List Int) : List Int := if maB ns ds = true then lwD ns ds ns.length else []

/-- Two rows of the call's own, not in one block. -/
structure LwAt (w : World) (B : Nat) (u1 u2 : Value) (xs ys : List Int) : Prop where
  h1 : IntsAt w B u1 xs
  h2 : IntsAt w B u2 ys
  ne : ∀ g, u1.ownBlock = some g → u2.ownBlock ≠ some g
theorem LwAt.kept {w w' : World} {B : Nat} {u1 u2 : Value} {xs ys : List Int} (h : LwAt w B u1 u2 xs ys) (hb : Below w.heap.size w w') : LwAt w' B u1 u2 xs ys := ⟨ownsRow_kept h.h1 hb, ownsRow_kept h.h2 hb, h.ne⟩
theorem LwAt.sym {w : World} {B : Nat} {u1 u2 : Value} {xs ys : List Int} (h : LwAt w B u1 u2 xs ys) : LwAt w B u2 u1 ys xs := ⟨h.h2, h.h1, fun g e1 e2 => h.ne g e2 e1⟩
theorem LwAt.set {w : World} {B : Nat} {u1 u2 : Value} {xs ys : List Int} (h : LwAt w B u1 u2 xs ys) {O k : Nat} (hO : O < B) (v : Value) : LwAt (w.setCell ⟨O, k, none⟩ v) B u1 u2 xs ys := by
  have hg : w.grownBy (w.setCell ⟨O, k, none⟩ v) (some O) := Touch.grown1 ((Touch.refl O (O + 1) w).setCell (p := ⟨O, k, none⟩) (Nat.le_refl _) (Nat.lt_succ_self _) v)
  exact ⟨h.h1.kept hg (.inr (fun e => by have := (World.ownsRow.lt h.h1 O e).1; omega)), h.h2.kept hg (.inr (fun e => by have := (World.ownsRow.lt h.h2 O e).1; omega)), h.ne⟩
theorem LwAt.snoc {wr W w5 : World} {B : Nat} {u1 u2 v5 : Value} {xs ys : List Int} {x : Int} (h : LwAt wr B u1 u2 xs ys) (hb : Below wr.heap.size wr W)
    (hown : w5.ownsRow B 3 1 v5 (xs.length + 1) (xs.map (Value.int .i64) ++ [.int .i64 x])) (hg : W.grownBy w5 u1.ownBlock) (hat : v5.ownBlock = u1.ownBlock ∨ v5.ownBlock = some W.heap.size) : LwAt w5 B v5 u2 (xs ++ [x]) ys := by
  refine ⟨by unfold IntsAt; simpa using hown, (ownsRow_kept h.h2 hb).kept hg ?_, fun g e1 e2 => ?_⟩
  · rcases e : u2.ownBlock with _ | g
    · exact .inl rfl
    · exact .inr (fun e2 => h.ne g e2.symm e)
  · rcases hat with e | e
    · exact h.ne g (e ▸ e1) e2
    · rw [e] at e1
      injection e1 with e1
      have := (World.ownsRow.lt h.h2 g e2).2
      have := hb.size
      omega
/-- A box below the rows is as it was behind an append. -/
theorem Bx.grown {wr W w5 : World} {b B : Nat} {x y u1 : Value} {n : Nat} {vs : List Value} (h : Bx wr b x y) (h1 : wr.ownsRow B 3 1 u1 n vs) (hbB : b < B) (hb : Below wr.heap.size wr W) (hg : W.grownBy w5 u1.ownBlock) : Bx w5 b x y :=
  (h.kept hb).of hg.size (hg.block b (Nat.lt_of_lt_of_le h.2.2 hb.size) (fun e => by have := (World.ownsRow.lt h1 b e.symm).1; omega))
/-- The same, its cells free. -/
def BxF (w : World) (b : Nat) (x y : Value) : Prop := Bx w b x y ∧ w.frozen? ⟨b, 0, none⟩ = false ∧ w.frozen? ⟨b, 1, none⟩ = false
theorem BxF.kept {w w' : World} {b : Nat} {x y : Value} (h : BxF w b x y) (hb : Below w.heap.size w w') : BxF w' b x y :=
  ⟨h.1.kept hb, (hb.frozen (p := ⟨b, 0, none⟩) h.1.2.2).trans h.2.1, (hb.frozen (p := ⟨b, 1, none⟩) h.1.2.2).trans h.2.2⟩
theorem BxF.of {w w' : World} {b : Nat} {x y : Value} (h : BxF w b x y) (hs : w.heap.size ≤ w'.heap.size) (he : w'.heap[b]? = w.heap[b]?) : BxF w' b x y :=
  ⟨h.1.of hs he, (World.frozen?_of_block (a := ⟨b, 0, none⟩) he).trans h.2.1, (World.frozen?_of_block (a := ⟨b, 1, none⟩) he).trans h.2.2⟩
theorem BxF.grown {wr W w5 : World} {b B : Nat} {x y u1 : Value} {n : Nat} {vs : List Value} (h : BxF wr b x y) (h1 : wr.ownsRow B 3 1 u1 n vs) (hbB : b < B) (hb : Below wr.heap.size wr W) (hg : W.grownBy w5 u1.ownBlock) : BxF w5 b x y :=
  (h.kept hb).of hg.size (hg.block b (Nat.lt_of_lt_of_le h.1.2.2 hb.size) (fun e => by have := (World.ownsRow.lt h1 b e.symm).1; omega))
theorem BxF.new (w : World) (x y : Value) (T : TypeId) : BxF (w.alloc (.cells #[x, y] T)) w.heap.size x y := ⟨Bx.new w x y T, by go_simp, by go_simp⟩
theorem BxF.other {w : World} {b c k : Nat} {x y : Value} (h : BxF w b x y) (hne : b ≠ c) (v : Value) : BxF (w.setCell ⟨c, k, none⟩ v) b x y := h.of (by simp) (Below.heap_setCell _ _ _ _ (by simpa using hne))
theorem Bx.other {w : World} {b c k : Nat} {x y : Value} (h : Bx w b x y) (hne : b ≠ c) (v : Value) : Bx (w.setCell ⟨c, k, none⟩ v) b x y := h.of (by simp) (Below.heap_setCell _ _ _ _ (by simpa using hne))
theorem BxF.set0 {w : World} {b : Nat} {x y : Value} (h : BxF w b x y) (v : Value) : BxF (w.setCell ⟨b, 0, none⟩ v) b v y :=
  ⟨⟨World.cell?_setCell_same' _ _ _ (by rw [h.1.1]; rfl), (World.cell?_setCell_other _ _ _ _ (by simp)).trans h.1.2.1, by have := h.1.2.2; simpa using this⟩, by rw [World.frozen?_setCell]; exact h.2.1, by rw [World.frozen?_setCell]; exact h.2.2⟩
theorem BxF.set1 {w : World} {b : Nat} {x y : Value} (h : BxF w b x y) (v : Value) : BxF (w.setCell ⟨b, 1, none⟩ v) b x v :=
  ⟨⟨(World.cell?_setCell_other _ _ _ _ (by simp)).trans h.1.1, World.cell?_setCell_same' _ _ _ (by rw [h.1.2.1]; rfl), by have := h.1.2.2; simpa using this⟩, by rw [World.frozen?_setCell]; exact h.2.1, by rw [World.frozen?_setCell]; exact h.2.2⟩
end Go.Proofs.Ythafciggchdmpaa
