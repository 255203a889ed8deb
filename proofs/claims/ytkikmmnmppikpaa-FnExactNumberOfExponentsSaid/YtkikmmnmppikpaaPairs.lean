/-
  ROWS OF PAIRS: 'pairsOf' of the program, 'reRecords' of the model, and what the laws do to a row of rows.
-/
import Derived.Test.YtkikmmnmppikpaaLists
import Derived.BigQuiet
import Derived.Deep.QuietTactic
namespace Go.Proofs.Ytkikmmnmppikpaa
open Go.RowKit
set_option linter.unusedVariables false

/-- The pair that a block holds. -/
def PairAt (w : World) (b : Nat) (r : Int × Int) : Prop :=
  w.cell? ⟨b, 0, none⟩ = some (.int .i64 r.1) ∧ w.cell? ⟨b, 1, none⟩ = some (.int .i64 r.2) ∧ w.frozen? ⟨b, 0, none⟩ = false ∧ w.frozen? ⟨b, 1, none⟩ = false
theorem PairAt.of {w w' : World} {b : Nat} {r : Int × Int} (h : PairAt w b r) (he : w'.heap[b]? = w.heap[b]?) : PairAt w' b r :=
  ⟨(World.cell?_of_block (a := ⟨b, 0, none⟩) he).trans h.1, (World.cell?_of_block (a := ⟨b, 1, none⟩) he).trans h.2.1, (World.frozen?_of_block (a := ⟨b, 0, none⟩) he).trans h.2.2.1, (World.frozen?_of_block (a := ⟨b, 1, none⟩) he).trans h.2.2.2⟩
/-- A slice of two that begins a block. -/
def slP (b : Nat) : Value := .slice (some ⟨b, 0, none⟩) 2 2
/-- A row of the call's own of rows of two, each in a block of its own. -/
def PairsAt (w : World) (B : Nat) (v : Value) (rs : List (Int × Int)) : Prop :=
  ∃ bs : List Nat, w.ownsRow B 24 1 v rs.length (bs.map slP) ∧ bs.length = rs.length ∧ bs.Nodup ∧ ∀ (k b : Nat), bs[k]? = some b → B ≤ b ∧ b < w.heap.size ∧ PairAt w b (rs.getD k (0, 0))
theorem pairsAt_nil (w : World) (B : Nat) : PairsAt w B (.slice none 0 0) [] := ⟨[], World.ownsRow_nil _ _ _ _, rfl, List.nodup_nil, by simp⟩
theorem PairsAt.kept {w w' : World} {B : Nat} {v : Value} {rs : List (Int × Int)} (h : PairsAt w B v rs) (hb : Below w.heap.size w w') : PairsAt w' B v rs := by
  obtain ⟨bs, h1, h2, h3, h4⟩ := h
  refine ⟨bs, ownsRow_kept h1 hb, h2, h3, fun k b hk => ?_⟩
  obtain ⟨a1, a2, a3⟩ := h4 k b hk
  exact ⟨a1, Nat.lt_of_lt_of_le a2 hb.size, a3.of (hb.block b a2)⟩
theorem PairsAt.base {w : World} {B B' : Nat} {v : Value} {rs : List (Int × Int)} (h : PairsAt w B v rs) (hB : B' ≤ B) : PairsAt w B' v rs := by
  obtain ⟨bs, h1, h2, h3, h4⟩ := h
  exact ⟨bs, ownsRow_base h1 hB, h2, h3, fun k b hk => ⟨Nat.le_trans hB (h4 k b hk).1, (h4 k b hk).2⟩⟩
theorem row_one {w : World} {B : Nat} {e : TypeId} {v : Value} {n : Nat} {xs : List Value} (h : w.ownsRow B e 1 v n xs) (hn : 0 < n) : ∃ g cap, v = .slice (some ⟨g, 0, none⟩) n cap ∧ B ≤ g ∧ g < w.heap.size ∧ n ≤ cap ∧ cap ≤ maxLen ∧ ∀ j x, xs[j]? = some x → w.cell? ⟨g, j, none⟩ = some x := by
  have hl := h.1
  rcases h.2 with ⟨_, h0⟩ | ⟨g, cap, cur, rfl, hB, hg, hc, hm, _⟩
  · omega
  · refine ⟨g, cap, rfl, hB, (Array.getElem?_eq_some_iff.1 hg).1, hc, hm, fun j x hx => ?_⟩
    have hj : j < xs.length := (List.getElem?_eq_some_iff.1 hx).1
    rw [World.ownsRow.cellAt h j (by omega), hx]
/-- A row's own block is none of those of its rows. -/
theorem pairs_apart {w : World} {B : Nat} {v : Value} {n : Nat} {bs : List Nat} (h : w.ownsRow B 24 1 v n (bs.map slP)) {k b : Nat} (hk : bs[k]? = some b) {r : Int × Int} (hp : PairAt w b r) : v.ownBlock ≠ some b := by
  intro e
  have hl := h.1
  have hkl : k < bs.length := (List.getElem?_eq_some_iff.1 hk).1
  simp at hl
  obtain ⟨g, cap, rfl, _, _, _, _, hc⟩ := row_one h (by omega)
  simp [Value.ownBlock] at e
  subst e
  have h0 : bs[0]? = some (bs[0]'(by omega)) := List.getElem?_eq_getElem _
  have := hc 0 _ (by rw [List.getElem?_map, h0]; rfl)
  rw [hp.1] at this
  simp [slP] at this
/-- One more. -/
theorem pairs_snoc {wr W w5 : World} {B b : Nat} {bs : List Nat} {v v5 : Value} {rs : List (Int × Int)} {r : Int × Int} (h1 : wr.ownsRow B 24 1 v rs.length (bs.map slP)) (h2 : bs.length = rs.length) (h3 : bs.Nodup)
    (h4 : ∀ (k b : Nat), bs[k]? = some b → B ≤ b ∧ b < wr.heap.size ∧ PairAt wr b (rs.getD k (0, 0))) (hb : Below wr.heap.size wr W) (hB : B ≤ wr.heap.size) (hbn : wr.heap.size ≤ b) (hbW : b < W.heap.size) (hp : PairAt W b r)
    (hown : w5.ownsRow B 24 1 v5 (rs.length + 1) (bs.map slP ++ [slP b])) (hg : W.grownBy w5 v.ownBlock) : PairsAt w5 B v5 (rs ++ [r]) := by
  have hne : ∀ k, v.ownBlock = some k → k < wr.heap.size := fun k e => (World.ownsRow.lt h1 k e).2
  refine ⟨bs ++ [b], by simpa using hown, by simp [h2], ?_, fun k c hk => ?_⟩
  · rw [List.nodup_append]
    refine ⟨h3, by simp, fun x hx y hy e => ?_⟩
    obtain rfl : y = b := by simpa using hy
    subst e
    obtain ⟨k, hk, hk2⟩ := List.getElem_of_mem hx
    have := (h4 k x (by rw [List.getElem?_eq_getElem hk, hk2])).2.1
    omega
  · by_cases hkl : k < bs.length
    · rw [List.getElem?_append_left hkl] at hk
      obtain ⟨a1, a2, a3⟩ := h4 k c hk
      have hap := pairs_apart h1 hk a3
      refine ⟨a1, by have := hb.size; have := hg.size; omega, ?_⟩
      have e : (rs ++ [r]).getD k (0, 0) = rs.getD k (0, 0) := by
        rw [List.getD_eq_getElem?_getD, List.getElem?_append_left (by omega), ← List.getD_eq_getElem?_getD]
      rw [e]
      exact (a3.of (hb.block c a2)).of (hg.block c (Nat.lt_of_lt_of_le a2 hb.size) (fun x => hap x.symm))
    · rw [List.getElem?_append_right (by omega)] at hk
      obtain rfl : k = bs.length := by
        have := (List.getElem?_eq_some_iff.1 hk).1
        simp at this
        omega
      obtain rfl : b = c := by simpa using hk
      have e : (rs ++ [r]).getD bs.length (0, 0) = r := by
        rw [List.getD_eq_getElem?_getD, List.getElem?_append_right (by omega), h2]; simp
      rw [e]
      exact ⟨by omega, Nat.lt_of_lt_of_le hbW hg.size, hp.of (hg.block b hbW (fun x => by have := hne b x.symm; omega))⟩

theorem new_cell_at (w : World) (x : Value) (T : TypeId) {s : Nat} (hs : w.heap.size = s) {j : Nat} {u : Value} (h : [x][j]? = some u) : (w.alloc (.cells #[x] T)).cell? ((⟨s, 0, none⟩ : Addr).add j) = some u := by
  subst hs
  exact new_cell w x T h
theorem info36 : (Try.prog.info? 24).map (fun i => (i.zero, i.size, i.bytes)) = some (some (.slice none 0 0), 1, 24) := by kernel_rfl
/-- What a function that makes a row of pairs hands back. -/
def RetPairs1 (rs : List (Int × Int)) (w : World) (e : Ending) (w' : World) : Prop := ∃ v, e = .returned v ∧ PairsAt w' w.heap.size v rs ∧ Below w.heap.size w w'
theorem pair_new (w : World) (x y : Int) (T : TypeId) : PairAt (w.alloc (.cells #[.int .i64 x, .int .i64 y] T)) w.heap.size (x, y) := by
  refine ⟨?_, ?_, ?_, ?_⟩ <;> go_simp
theorem take_snoc {rs : List (Int × Int)} {j : Nat} (h : j < rs.length) : rs.take (j + 1) = rs.take j ++ [rs.getD j (0, 0)] := by
  rw [List.take_add_one, List.getElem?_eq_getElem h, List.getD_eq_getElem?_getD, List.getElem?_eq_getElem h]; rfl

end Go.Proofs.Ytkikmmnmppikpaa
