/-
  'reachedFrom' of the program: a map of its own, and a queue that is popped at the front.
-/
import Derived.Test.YtpfclanblcngfaaRrM
import Derived.Test.YtpfclanblcngfaaNvI
import Derived.Test.YtpfclanblcngfaaSortT
import Derived.Test.YtpfclanblcngfaaShelf
import Derived.Shelf.Slices.Clone
import Derived.ArgAppend
import Derived.Laws.IdiomCopy
namespace Go.Proofs.Ytpfclanblcngfaa
open Go.RowKit Go.Maps
set_option linter.unusedVariables false

/-- A queue in a block of its own, from B on; its head need not be the block's. -/
def QAt (w : World) (B : Nat) (v : Value) (Q : List Int) : Prop := ∃ g off cap, v = .slice (some ⟨g, off, none⟩) Q.length cap ∧ B ≤ g ∧ g < w.heap.size ∧ Q.length ≤ cap ∧ cap ≤ maxLen ∧
  (∀ j, j < Q.length → w.cell? ⟨g, off + j, none⟩ = some (.int .i64 (Q.getD j 0))) ∧ (∀ j, j < cap → (w.cell? ⟨g, off + j, none⟩).isSome = true ∧ w.frozen? ⟨g, off + j, none⟩ = false)
theorem QAt.other {w w' : World} {B : Nat} {v : Value} {Q : List Int} (h : QAt w B v Q) (hs : w.heap.size ≤ w'.heap.size) (hb : ∀ k, B ≤ k → k < w.heap.size → w'.heap[k]? = w.heap[k]?) : QAt w' B v Q := by
  obtain ⟨g, off, cap, h0, h1, h2, h3, h4, h5, h6⟩ := h
  have e := hb g h1 h2
  exact ⟨g, off, cap, h0, h1, Nat.lt_of_lt_of_le h2 hs, h3, h4, fun j hj => (World.cell?_of_block (a := ⟨g, off + j, none⟩) e).trans (h5 j hj), fun j hj => ⟨by rw [World.cell?_of_block (a := ⟨g, off + j, none⟩) e]; exact (h6 j hj).1, (World.frozen?_of_block (a := ⟨g, off + j, none⟩) e).trans (h6 j hj).2⟩⟩
theorem QAt.kept {w w' : World} {B : Nat} {v : Value} {Q : List Int} (h : QAt w B v Q) (hb : Below w.heap.size w w') : QAt w' B v Q := h.other hb.size (fun k _ hk => hb.block k hk)
theorem QAt.grown {w w' : World} {B b : Nat} {v : Value} {Q : List Int} (h : QAt w B v Q) (hg : w.grownBy w' (some b)) (hbB : b < B) : QAt w' B v Q :=
  h.other hg.size (fun k hk hk2 => hg.block k hk2 (by simp; omega))
theorem QAt.of_row {w : World} {B : Nat} {v : Value} {Q : List Int} (h : IntsAt w B v Q) (hn : v ≠ .slice none 0 0) : QAt w B v Q := by
  rcases h.2 with ⟨e, _⟩ | ⟨g, cap, cur, rfl, hB, hg, hc, hm, hcs, htake⟩
  · exact absurd e hn
  · refine ⟨g, 0, cap, rfl, hB, (Array.getElem?_eq_some_iff.1 hg).1, hc, hm, fun j hj => ?_, fun j hj => ⟨?_, World.ownsRow.frozenAt h _⟩⟩
    · rw [Nat.zero_add, World.ownsRow.cellAt h j (by omega), List.getElem?_map, List.getElem?_eq_getElem hj, List.getD_eq_getElem?_getD, List.getElem?_eq_getElem hj]; rfl
    · rw [Nat.zero_add, cell_of_row w g j cur 3 (0, 0) hg]
      simp
      omega
theorem QAt.tailA {w : World} {B g off cap : Nat} {x : Int} {Q : List Int} (h1 : B ≤ g) (h2 : g < w.heap.size) (h3 : Q.length + 1 ≤ cap) (h4 : cap ≤ maxLen) (h5 : ∀ j, j < Q.length + 1 → w.cell? ⟨g, off + j, none⟩ = some (.int .i64 ((x :: Q).getD j 0)))
    (h6 : ∀ j, j < cap → (w.cell? ⟨g, off + j, none⟩).isSome = true ∧ w.frozen? ⟨g, off + j, none⟩ = false) : QAt w B (.slice (some ⟨g, off + 1, none⟩) Q.length (cap - 1)) Q :=
  ⟨g, off + 1, cap - 1, rfl, h1, h2, by omega, by omega, fun j hj => by have := h5 (j + 1) (by omega); rw [Nat.add_assoc, Nat.add_comm 1 j]; exact this, fun j hj => by rw [Nat.add_assoc, Nat.add_comm 1 j]; exact h6 (j + 1) (by omega)⟩
theorem QAt.tailB {w : World} {B g off cap : Nat} {Q : List Int} (h1 : B ≤ g) (h2 : g < w.heap.size) (h3 : Q.length + 1 ≤ cap) (hc : cap = 1) : QAt w B (.slice (some ⟨g, off, none⟩) Q.length (cap - 1)) Q := by
  obtain rfl : Q = [] := List.eq_nil_of_length_eq_zero (by omega)
  exact ⟨g, off, cap - 1, rfl, h1, h2, by simp, by unfold maxLen; omega, fun j hj => by simp at hj, fun j hj => by omega⟩
/-- Put in behind it where there is room. -/
theorem QAt.push {w : World} {B g off cap : Nat} {Q : List Int} {x : Int} (h1 : B ≤ g) (h2 : g < w.heap.size) (h3 : Q.length + 1 ≤ cap) (h4 : cap ≤ maxLen) (h5 : ∀ j, j < Q.length → w.cell? ⟨g, off + j, none⟩ = some (.int .i64 (Q.getD j 0)))
    (h6 : ∀ j, j < cap → (w.cell? ⟨g, off + j, none⟩).isSome = true ∧ w.frozen? ⟨g, off + j, none⟩ = false) : QAt (w.setCell ⟨g, off + Q.length, none⟩ (.int .i64 x)) B (.slice (some ⟨g, off, none⟩) (Q.length + 1) cap) (Q ++ [x]) := by
  refine ⟨g, off, cap, by simp, h1, by simpa using h2, by simp; exact h3, h4, fun j hj => ?_, fun j hj => ⟨?_, (World.frozen?_setCell ..).trans (h6 j hj).2⟩⟩
  · by_cases e : j = Q.length
    · subst e
      obtain ⟨u, hu⟩ := Option.isSome_iff_exists.1 (h6 Q.length (by omega)).1
      rw [World.cell?_setCell_same' _ _ _ (by rw [hu]; rfl)]
      simp
    · have hlt : j < Q.length := by simp at hj; omega
      rw [World.cell?_setCell_other _ _ _ _ (by simp <;> omega), h5 j hlt, getD_pre hlt]
  · by_cases e : j = Q.length
    · subst e
      obtain ⟨u, hu⟩ := Option.isSome_iff_exists.1 (h6 Q.length (by omega)).1
      rw [World.cell?_setCell_same' _ _ _ (by rw [hu]; rfl)]
      rfl
    · rw [World.cell?_setCell_other _ _ _ _ (by simp <;> omega)]
      exact (h6 j hj).1

theorem QAt.inv {w : World} {B g off n cap : Nat} {Q : List Int} (h : QAt w B (.slice (some ⟨g, off, none⟩) n cap) Q) : n = Q.length ∧ B ≤ g ∧ g < w.heap.size ∧ Q.length ≤ cap ∧ cap ≤ maxLen ∧
    (∀ j, j < Q.length → w.cell? ⟨g, off + j, none⟩ = some (.int .i64 (Q.getD j 0))) ∧ (∀ j, j < cap → (w.cell? ⟨g, off + j, none⟩).isSome = true ∧ w.frozen? ⟨g, off + j, none⟩ = false) := by
  obtain ⟨g', off', cap', e, h⟩ := h
  simp only [Value.slice.injEq, Option.some.injEq, Addr.mk.injEq, and_true] at e
  obtain ⟨⟨rfl, rfl⟩, rfl, rfl⟩ := e
  exact ⟨rfl, h⟩
theorem QAt.spare {w : World} {B g off n cap : Nat} {Q : List Int} (h : QAt w B (.slice (some ⟨g, off, none⟩) n cap) Q) (hr : n + 1 ≤ cap) (j : Nat) (hj : j < 1) : (w.cell? ⟨g, off + n * 1 + j, none⟩).isSome = true ∧ w.frozen? ⟨g, off + n * 1 + j, none⟩ = false := by
  obtain ⟨_, _, _, _, _, _, h6⟩ := h.inv
  rw [Nat.mul_one, Nat.add_assoc]
  exact h6 (n + j) (by omega)
theorem QAt.olds {w : World} {B g off n cap : Nat} {Q : List Int} (h : QAt w B (.slice (some ⟨g, off, none⟩) n cap) Q) (j : Nat) (u : Value) (hu : (Q.map (Value.int .i64))[j]? = some u) : w.cell? ⟨g, off + j, none⟩ = some u := by
  obtain ⟨_, _, _, _, _, h5, _⟩ := h.inv
  have hj : j < Q.length := by have := (List.getElem?_eq_some_iff.1 hu).1; simpa using this
  rw [h5 j hj, ← hu, List.getElem?_map, List.getElem?_eq_getElem hj, List.getD_eq_getElem?_getD, List.getElem?_eq_getElem hj]; rfl
theorem QAt.pushed {w : World} {B g off n cap : Nat} {Q : List Int} {x : Int} (h : QAt w B (.slice (some ⟨g, off, none⟩) n cap) Q) (hr : n + 1 ≤ cap) : QAt (w.setCells g (off + n * 1) [.int .i64 x]) B (.slice (some ⟨g, off, none⟩) (n + 1) cap) (Q ++ [x]) := by
  obtain ⟨rfl, h1, h2, h3, h4, h5, h6⟩ := h.inv
  rw [Nat.mul_one]
  exact QAt.push h1 h2 hr h4 h5 h6
theorem QAt.fresh {w : World} {B b : Nat} {v : Value} {n : Nat} {Q : List Int} {x : Int} (h : w.ownsRow b 3 1 v (n + 1) (Q.map (Value.int .i64) ++ [.int .i64 x])) (hn : n = Q.length) (hb : B ≤ b) : QAt w B v (Q ++ [x]) := by
  subst hn
  have h2 : IntsAt w B v (Q ++ [x]) := by
    unfold IntsAt
    rw [List.map_append, List.length_append]
    exact ownsRow_base h hb
  refine QAt.of_row h2 (fun e => ?_)
  rcases h.2 with ⟨_, h0⟩ | ⟨g, cap, cur, e', _⟩
  · omega
  · rw [e] at e'; simp at e'
theorem two_fresh (w : World) : TwoAt (w.alloc (.cells #[.int .i64 0, .int .i64 0] 39)) w.heap.size 0 0 := ⟨by go_simp, by go_simp, by go_simp, by go_simp, by simp⟩
theorem two_fresh_drew (w : World) : TwoAt (w.alloc (.cells #[.int .i64 0, .int .i64 0] 39)).drew w.heap.size 0 0 := ⟨by go_simp, by go_simp, by go_simp, by go_simp, by simp⟩
theorem exists_least {P : Nat → Prop} (h : ∃ n, P n) : ∃ m, P m ∧ ∀ k, P k → m ≤ k := by
  obtain ⟨n, hn⟩ := h
  induction n using Nat.strongRecOn with
  | _ n ih =>
    by_cases hk : ∃ k, k < n ∧ P k
    · obtain ⟨k, hk1, hk2⟩ := hk
      exact ih k hk1 hk2
    · exact ⟨n, hn, fun k hp => Nat.le_of_not_lt (fun hlt => hk ⟨k, hlt, hp⟩)⟩
open Classical in
noncomputable def leastN (P : Nat → Prop) : Nat := if h : ∃ n, P n then Classical.choose (exists_least h) else 0
theorem leastN_spec {P : Nat → Prop} (h : ∃ n, P n) : P (leastN P) ∧ ∀ k, P k → leastN P ≤ k := by
  unfold leastN
  rw [dif_pos h]
  exact Classical.choose_spec (exists_least h)

/-- Where the search stands: n tells how much is left to do at most. -/
structure RfIn (t p : Int) (K : Nat) (fr R Q : List Int) (n : Nat) : Prop where
  nd : R.Nodup
  base : ∀ x ∈ fr, x ∈ R
  rch : ∀ x ∈ R, Rch t p K fr x
  cl : ∀ x ∈ R, x ∉ Q → nb t p K x 0 ∈ R ∧ nb t p K x 1 ∈ R
  sub : ∀ x ∈ Q, x ∈ R
  meas : n = 2 * (K - R.length) + Q.length
  bd : n ≤ 122
def RfAt (t p : Int) (K : Nat) (fr : List Int) (b : Nat) (w : World) (n : Nat) (v : Value) (wr : World) : Prop :=
  ∃ R Q, RfIn t p K fr R Q n ∧ SetTo wr b (2 + R.length) R ∧ QAt wr (b + 1) v Q ∧ wr.cell? ⟨w.heap.size, 0, none⟩ = some (.int .i64 t) ∧ wr.cell? ⟨w.heap.size, 1, none⟩ = some (.int .i64 p) ∧ b < wr.heap.size ∧ Below w.heap.size w wr
/-- While the two behind the one that is popped, q, are put in: the first m are. -/
structure RfMid (t p : Int) (K : Nat) (fr R Qt R' Q' : List Int) (q : Int) (m : Nat) : Prop where
  nd : R'.Nodup
  pre : ∀ x ∈ R, x ∈ R'
  rch : ∀ x ∈ R', Rch t p K fr x
  new : ∀ x ∈ R', x ∈ R ∨ x ∈ Q'
  tl : ∀ x ∈ Qt, x ∈ Q'
  sub : ∀ x ∈ Q', x ∈ R'
  got0 : 0 < m → nb t p K q 0 ∈ R'
  got1 : 1 < m → nb t p K q 1 ∈ R'
  meas : 2 * (K - R'.length) + Q'.length ≤ 2 * (K - R.length) + Qt.length
/-- The loop over both. -/
def RfRel (t p : Int) (K : Nat) (fr R Qt : List Int) (q : Int) (b : Nat) (w : World) (v x : Value) (wq : World) : Prop :=
  ∃ m R' Q', m ≤ 2 ∧ x = .int .i64 ((m : Nat) : Int) ∧ RfMid t p K fr R Qt R' Q' q m ∧ SetTo wq b (2 + R'.length) R' ∧ QAt wq (b + 1) v Q' ∧ wq.cell? ⟨w.heap.size, 0, none⟩ = some (.int .i64 t) ∧ wq.cell? ⟨w.heap.size, 1, none⟩ = some (.int .i64 p) ∧ b < wq.heap.size ∧ Below w.heap.size w wq
theorem RfIn.mid {t p : Int} {K : Nat} {fr R Qt : List Int} {q : Int} {n : Nat} (h : RfIn t p K fr R (q :: Qt) n) : RfMid t p K fr R Qt R Qt q 0 :=
  ⟨h.nd, fun _ hx => hx, h.rch, fun _ hx => .inl hx, fun _ hx => hx, fun x hx => h.sub x (List.mem_cons_of_mem _ hx), fun h => by omega, fun h => by omega, Nat.le_refl _⟩
theorem RfMid.old {t p : Int} {K : Nat} {fr R Qt R' Q' : List Int} {q a : Int} {m : Nat} (h : RfMid t p K fr R Qt R' Q' q m) (hm : m < 2) (ha : a = nb t p K q m) (hin : a ∈ R') : RfMid t p K fr R Qt R' Q' q (m + 1) :=
  ⟨h.nd, h.pre, h.rch, h.new, h.tl, h.sub, fun _ => by
    by_cases e : m = 0
    · subst e; rw [← show a = nb t p K q 0 from ha]; exact hin
    · exact h.got0 (by omega), fun hh => by
    have e : m = 1 := by omega
    subst e
    rw [← show a = nb t p K q 1 from ha]; exact hin, h.meas⟩
theorem RfMid.put {t p : Int} {K : Nat} {fr R Qt R' Q' : List Int} {q a : Int} {m : Nat} (h : RfMid t p K fr R Qt R' Q' q m) (hm : m < 2) (ha : a = nb t p K q m) (hin : a ∉ R') (hr : Rch t p K fr q) (hK : 0 < K) (hl : ∀ x ∈ fr, 0 ≤ x ∧ x < (K : Int)) : RfMid t p K fr R Qt (R' ++ [a]) (Q' ++ [a]) q (m + 1) := by
  have hra : Rch t p K fr a := by
    have : m = 0 ∨ m = 1 := by omega
    rcases this with rfl | rfl
    · rw [ha]; exact hr.fst
    · rw [ha]; exact hr.snd
  have hnd : (R' ++ [a]).Nodup := by rw [← add1_no hin]; exact add1_nodup a h.nd
  have hrch : ∀ x ∈ R' ++ [a], Rch t p K fr x := fun x hx => by
    rcases List.mem_append.1 hx with h1 | h1
    · exact h.rch x h1
    · rw [List.mem_singleton.1 h1]; exact hra
  have hlen := nodup_len hnd (fun x hx => (hrch x hx).range (by omega) hl)
  refine ⟨hnd, fun x hx => List.mem_append_left _ (h.pre x hx), hrch, fun x hx => ?_, fun x hx => List.mem_append_left _ (h.tl x hx), fun x hx => ?_, fun _ => ?_, fun hh => ?_, ?_⟩
  · rcases List.mem_append.1 hx with h1 | h1
    · rcases h.new x h1 with h2 | h2
      · exact .inl h2
      · exact .inr (List.mem_append_left _ h2)
    · exact .inr (List.mem_append_right _ h1)
  · rcases List.mem_append.1 hx with h1 | h1
    · exact List.mem_append_left _ (h.sub x h1)
    · exact List.mem_append_right _ h1
  · by_cases e : m = 0
    · subst e; rw [← show a = nb t p K q 0 from ha]; simp
    · exact List.mem_append_left _ (h.got0 (by omega))
  · have e : m = 1 := by omega
    subst e
    rw [← show a = nb t p K q 1 from ha]; simp
  · have hm' := h.meas
    rw [List.length_append] at hlen ⊢
    rw [List.length_append]
    simp at hlen ⊢
    omega
theorem RfMid.fin {t p : Int} {K : Nat} {fr R Qt R' Q' : List Int} {q : Int} {n : Nat} (h : RfMid t p K fr R Qt R' Q' q 2) (h0 : RfIn t p K fr R (q :: Qt) n) : ∃ n', RfIn t p K fr R' Q' n' ∧ n' < n := by
  refine ⟨_, ⟨h.nd, fun x hx => h.pre x (h0.base x hx), h.rch, fun x hx hn => ?_, h.sub, rfl, ?_⟩, ?_⟩
  · rcases h.new x hx with h1 | h1
    · by_cases e : x = q
      · subst e; exact ⟨h.got0 (by omega), h.got1 (by omega)⟩
      · obtain ⟨a, b⟩ := h0.cl x h1 (fun hm => by
          rcases List.mem_cons.1 hm with e' | e'
          · exact e e'
          · exact hn (h.tl x e'))
        exact ⟨h.pre _ a, h.pre _ b⟩
    · exact absurd h1 hn
  · have := h.meas
    have h2 := h0.bd
    rw [h0.meas, List.length_cons] at h2
    omega
  · have := h.meas
    rw [h0.meas, List.length_cons]
    omega
theorem RfIn.all {t p : Int} {K : Nat} {fr R : List Int} {n : Nat} (h : RfIn t p K fr R [] n) (x : Int) : x ∈ R ↔ Rch t p K fr x :=
  rch_of_closed h.base h.rch (fun x hx => h.cl x hx (by simp)) x
theorem SetTo.ext {w : World} {b N N' : Nat} {xs ys : List Int} (h : SetTo w b N xs) (hN : N ≤ N') (he : ∀ x, x ∈ xs ↔ x ∈ ys) : SetTo w b N' ys := by
  obtain ⟨n, D, h1, h2, h3, h4⟩ := h
  exact ⟨n, D, h1, Nat.le_trans h2 hN, fun x => (h3 x).trans (he x), h4⟩

set_option maxRecDepth 100000 in
set_option maxHeartbeats 4000000 in
theorem reachedFrom_any (t p : Int) (K : Nat) (v : Value) (fr : List Int) (w : World) (hg : goodB t p = true) (hm1 : 1 ≤ K) (hm2 : K ≤ 60) (hfr : ∀ x ∈ fr, 0 ≤ x ∧ x < (K : Int)) (hl : fr.length ≤ 2) (hv : PartV w v fr) :
    Calls Try.prog 30 #[.agg #[.int .i64 t, .int .i64 p], .int .i64 (K : Int), v] w fun e w' => ∃ b xs, e = .returned (.map (some b)) ∧ SetTo w' b 100 xs ∧ (∀ x, x ∈ xs ↔ Rch t p K fr x) ∧ w.heap.size ≤ b ∧ b < w'.heap.size ∧ Below w.heap.size w w' := by
  obtain ⟨g, off, cap, rfl, hgl, hc1, hc2, hpart⟩ := hv
  have HNX := Lib.hid (fun (x : Int) (h0 : 0 ≤ x) (h1 : x < (K : Int)) w => residuesBehind_any t p K x w hg (by omega) (by omega) h0 h1)
  have HFR := Lib.hid hfr
  have HP := Lib.hid hpart
  have hmm := @run_makeMap Try.prog
  obtain ⟨j0, hj, hj0, hj1, hj2⟩ := info_parts info3
  obtain ⟨N, hN⟩ : ∃ N, fr.length = N := ⟨_, rfl⟩
  have HN := Lib.hid hN
  rw [hN] at hl hc1 ⊢
  clear hg hfr hpart hN
  go_enter Try.func30, Try.ntmps30
  go_wp2_with fail
  obtain ⟨W0, hW0⟩ : ∃ W0, (w.alloc (Obj.cells #[Value.int IntKind.i64 t, Value.int IntKind.i64 p] 27)).alloc (Obj.map #[] 0) = W0 := ⟨_, rfl⟩
  have hset0 : SetTo W0 (w.heap.size + 1) 0 (fr.take 0) := by
    rw [← hW0, List.take_zero]
    have := World.ownsMap_made (H := Unit) (w.alloc (Obj.cells #[Value.int IntKind.i64 t, Value.int IntKind.i64 p] 27)) Try.prog 3 (plainElem (H := Unit) Try.prog 4)
    simp at this
    exact ⟨0, .map [], this, Nat.le_refl _, fun x => by simp [has_eq], allTrue_empty⟩
  have hc0 : W0.cell? ⟨w.heap.size, 0, none⟩ = some (.int .i64 t) := by subst hW0; go_simp
  have hc1' : W0.cell? ⟨w.heap.size, 1, none⟩ = some (.int .i64 p) := by subst hW0; go_simp
  have hb0 : Below w.heap.size w W0 := by rw [← hW0]; exact ((Below.refl _ w).alloc (Nat.le_refl _) _).alloc (by simp) _
  have hs0 : w.heap.size + 1 < W0.heap.size := by rw [← hW0]; simp
  rw [hW0]
  clear hW0
  go_loopw [17] (fun x wr => ∃ j : Nat, j ≤ N ∧ x = .int .i64 (j : Int) ∧ SetTo wr (w.heap.size + 1) j (fr.take j) ∧ wr.cell? ⟨w.heap.size, 0, none⟩ = some (.int .i64 t) ∧ wr.cell? ⟨w.heap.size, 1, none⟩ = some (.int .i64 p) ∧ w.heap.size + 1 < wr.heap.size ∧ Below w.heap.size w wr) (fun x _ => N - (RowKit.intOf x).toNat)
  case atStart => exact ⟨0, Nat.zero_le _, rfl, hset0, hc0, hc1', hs0, hb0⟩
  case round =>
    clear hset0 hc0 hc1' hs0 hb0
    obtain ⟨j, hjN, rfl, hset, c0, c1, hs, hb⟩ := hrel
    have HB := Lib.hid hb
    by_cases hlt : j < N
    · have hlt2 : (j : Int) < (N : Int) := by omega
      have hjf : j < fr.length := by rw [HN.out]; exact hlt
      have q : wr.cell? ⟨g, off + j, none⟩ = some (.int .i64 (fr.getD j 0)) := (hb.cell (p := ⟨g, off + j, none⟩) hgl).trans (HP.out.at hjf)
      obtain ⟨x0, x1⟩ := HFR.out _ (mem_of_at hjf rfl)
      have HTK := Lib.hid (take_snocI hjf)
      obtain ⟨x, hx⟩ : ∃ x, fr.getD j 0 = x := ⟨_, rfl⟩
      rw [hx] at q x0 x1 HTK
      have HKEY := Lib.hid (keyOf_int_mk (P := Try.prog) Try.underlying3 (show (Lit.int .i64 x).wf = true from small_wf x0 (by omega)))
      obtain ⟨n3, D3, hown3, hn3, hD3, hT3⟩ := hset
      have HO3 := Lib.hid hown3
      have HD3 := Lib.hid hD3
      have HT3 := Lib.hid hT3
      clear hown3 hD3 hT3 hx hb hjf
      go_wp2_with (at_mapUpdate; refine wpList_mapUpdate_own _ rfl _ _ _ 48 rfl 3 4 keyedInt Try.underlying48 (plainElem (H := Unit) Try.prog 4) (w.heap.size + 1) n3 _ rfl HO3.out (by unfold maxLen; omega) _ _ _ rfl rfl HKEY.out _ [] (plainElem_bool Try.underlying4 true) ?_; intro w5 hown5 hgrow5)
      have hb5 : Below (w.heap.size + 1) wr w5 := (Below.refl (w.heap.size + 1) wr).grown hgrow5 (by omega) (fun k e => by cases e; exact Nat.le_refl _)
      have f0 := (hb5.cell (p := ⟨w.heap.size, 0, none⟩) (Nat.lt_succ_self _)).trans c0
      have f1 := (hb5.cell (p := ⟨w.heap.size, 1, none⟩) (Nat.lt_succ_self _)).trans c1
      refine ⟨⟨j + 1, hlt, by go_num, ⟨n3 + 1, _, hown5, by omega, ?_, HT3.out.put HO3.out.isMap _⟩, f0, f1, Nat.lt_of_lt_of_le hs hgrow5.size, HB.out.trans (hb5.mono (Nat.le_succ _))⟩, by simp [RowKit.intOf]; omega⟩
      intro z
      rw [has_put_iff HO3.out.isMap, HD3.out z, HTK.out, List.mem_append, List.mem_singleton]
    · have HJ : Hid (j = N) := Lib.hid (by omega)
      have hlt2 : ¬ ((j : Int) < (N : Int)) := by omega
      have HS := Lib.hid hset
      have HCL := Lib.hid (Any.slices_Clone_int Try.cloneB g off N cap fr wr (by rw [HN.out]; exact Nat.le_refl _) (by omega) (fun i hi => (hb.cell (p := ⟨g, off + i, none⟩) hgl).trans (HP.out.at hi)))
      clear hset hlt hjN hb
      go_wp2_with fail
      refine HCL.out.mono ?_
      rintro e w2 ⟨v, rfl, hrow, hne, hb2⟩
      have hcar : IntsAt w2 wr.heap.size v fr := by
        unfold IntsAt
        have h := hrow
        rw [← HN.out, List.take_length] at h
        exact h
      have hq := QAt.of_row hcar hne
      have d0 := kept_cell hb2 (by omega) c0
      have d1 := kept_cell hb2 (by omega) c1
      have HS2 := Lib.hid (HS.out.under hb2 hs)
      have HB2 := Lib.hid (HB.out.trans (hb2.mono HB.out.size))
      have hs2 := Nat.lt_of_lt_of_le hs hb2.size
      have HQ : Hid (QAt w2 (w.heap.size + 1 + 1) v fr) := Lib.hid (by
        obtain ⟨g', off', cap', h0, h1, h2⟩ := hq
        exact ⟨g', off', cap', h0, by omega, h2⟩)
      have hst : ∃ n, RfAt t p K fr (w.heap.size + 1) w n v w2 := by
        have hnn := addU_nodup (ys := fr) (a := []) List.nodup_nil
        have hme : ∀ x, x ∈ fr ↔ x ∈ addU [] fr := fun x => by rw [mem_addU]; simp
        refine ⟨_, addU [] fr, fr, ⟨hnn, fun x hx => (hme x).1 hx, fun x hx => .base ((hme x).2 hx), fun x hx hn => absurd ((hme x).2 hx) hn, fun x hx => (hme x).1 hx, rfl, by have := HN.out; omega⟩, ?_, HQ.out, d0, d1, hs2, HB2.out⟩
        have h := HS2.out
        rw [HJ.out, ← HN.out, List.take_length] at h
        exact h.ext (by rw [HN.out]; omega) hme
      have HST := Lib.hid hst
      clear hcar hq hrow hne hb2 c0 c1 hst HCL
      go_wp2_with fail
      go_loopw [10] (fun v wr => ∃ n, RfAt t p K fr (w.heap.size + 1) w n v wr) (fun v wr => leastN (fun n => RfAt t p K fr (w.heap.size + 1) w n v wr))
      case atStart => exact HST.out
      case round =>
        clear HST HQ d0 d1 hs2 HB2 HS2 HS HB hs
        have hrf := (leastN_spec hrel).1
        obtain ⟨n0, hn0⟩ : ∃ n0, leastN (fun n => RfAt t p K fr (w.heap.size + 1) w n u10 wr) = n0 := ⟨_, rfl⟩
        have HLT : Hid (∀ n' v' w', RfAt t p K fr (w.heap.size + 1) w n' v' w' → n' < n0 → leastN (fun n => RfAt t p K fr (w.heap.size + 1) w n v' w') < leastN (fun n => RfAt t p K fr (w.heap.size + 1) w n u10 wr)) := Lib.hid (fun n' v' w' h' hlt => by rw [hn0]; exact Nat.lt_of_le_of_lt ((leastN_spec ⟨n', h'⟩).2 n' h') hlt)
        have hrf' : RfAt t p K fr (w.heap.size + 1) w n0 u10 wr := by rw [← hn0]; exact hrf
        obtain ⟨R, Q, hin, hset, hq, c0, c1, hs, hb⟩ := hrf'
        clear hrf hn0 hrel
        obtain ⟨gq, oq, cq, rfl, hq1, hq2, hq3, hq4, hq5, hq6⟩ := hq
        have HIN := Lib.hid hin
        have HSET := Lib.hid hset
        have HB := Lib.hid hb
        have hRl := nodup_len hin.nd (fun x hx => (hin.rch x hx).range (by omega) HFR.out)
        cases Q with
        | nil =>
          simp only [List.length_nil] at hq3 ⊢
          clear hin hset hb hq5 hq6
          go_wp2_with fail
          go_ret
          exact ⟨w.heap.size + 1, R, rfl, HSET.out.ext (by omega) (fun _ => Iff.rfl), HIN.out.all, Nat.le_succ _, hs, HB.out⟩
        | cons q Qt =>
          have hqr := hin.rch q (hin.sub q (List.mem_cons_self ..))
          obtain ⟨x0, x1⟩ := hqr.range (by omega) HFR.out
          have HQR := Lib.hid hqr
          have HNJ := Lib.hid (HNX.out q x0 x1)
          have q0 : wr.cell? ⟨gq, oq, none⟩ = some (.int .i64 q) := by have := hq5 0 (by simp); simpa using this
          have HQ5 := Lib.hid hq5
          have HQ6 := Lib.hid hq6
          simp only [List.length_cons] at hq3 ⊢
          have ha1 : (1 : Int) ≤ (cq : Int) := by omega
          have ha2 : (Qt.length : Int) + 1 ≤ (cq : Int) := by omega
          have ha3 : (cq : Int) ≤ 9223372036854775807 := by unfold maxLen at hq4; omega
          have HTA := Lib.hid (QAt.tailA (B := w.heap.size + 1 + 1) hq1 hq2 hq3 hq4 hq5 hq6 (x := q) (Q := Qt))
          have HTB := Lib.hid (fun hc => QAt.tailB (B := w.heap.size + 1 + 1) (off := oq) (Q := Qt) hq1 hq2 hq3 hc)
          obtain ⟨a0, h0⟩ : ∃ a, nb t p K q 0 = a := ⟨_, rfl⟩
          obtain ⟨a1, h1⟩ : ∃ a, nb t p K q 1 = a := ⟨_, rfl⟩
          have hr0 := nb_range (t := t) (p := p) (M := K) (r := q) (i := 0) (by omega)
          have hr1 := nb_range (t := t) (p := p) (M := K) (r := q) (i := 1) (by omega)
          rw [h0, h1] at HNJ
          rw [h0] at hr0
          rw [h1] at hr1
          have H0 := Lib.hid h0
          have H1 := Lib.hid h1
          clear hin hset hb hq5 hq6 hqr h0 h1
          have hsl : w.heap.size < wr.heap.size := by omega
          have HQA : Hid (¬ cq = 1 → QAt wr (w.heap.size + 1 + 1) (.slice (some ⟨gq, oq + 1, none⟩) Qt.length (cq - 1)) Qt) := Lib.hid (fun _ => HTA.out)
          have HSTART : Hid (∀ v Wi, QAt wr (w.heap.size + 1 + 1) v Qt → Below wr.heap.size wr Wi → RfRel t p K fr R Qt q (w.heap.size + 1) w v (.int .i64 0) Wi) := Lib.hid (fun v Wi hq hb => ⟨0, R, Qt, by omega, rfl, HIN.out.mid, HSET.out.under hb hs, hq.kept hb, kept_cell hb hsl c0, kept_cell hb hsl c1, Nat.lt_of_lt_of_le hs hb.size, HB.out.trans (hb.mono HB.out.size)⟩)
          have HIX := Lib.hid (fun m (h : m < 2) w => index_two #[.int .i64 a0, .int .i64 a1] m (if m = 0 then .int .i64 a0 else .int .i64 a1) h (by
            have : m = 0 ∨ m = 1 := by omega
            rcases this with rfl | rfl <;> rfl) w)
          clear HTA
          by_cases hc1 : cq = 1
          · have HQ1 : Hid (QAt wr (w.heap.size + 1 + 1) (.slice (some ⟨gq, oq, none⟩) Qt.length 0) Qt) := Lib.hid (by have h := HTB.out hc1; rw [hc1] at h; exact h)
            go_wp2_with fail
            go_region_law (go_simp; go_at_call 24; refine (HNJ.out _).mono ?_; rintro e w3 ⟨rfl, hb3⟩; first | (have HT3 : Hid (TwoAt w3 wr.heap.size 0 0) := Lib.hid (by first | exact (two_fresh wr).below hb3 (by simp) | exact (two_fresh_drew wr).below hb3 (by simp)); obtain ⟨p0, p1, f0, f1, _⟩ := HT3.out) | skip)
            all_goals
              have hb4 : Below wr.heap.size wr w3 := by
                first
                  | exact hb3
                  | exact (Below.refl _ wr).drew.trans (hb3.mono (by simp))
                  | exact ((Below.refl wr.heap.size wr).alloc (Nat.le_refl _) _).trans (hb3.mono (by simp))
                  | exact (((Below.refl wr.heap.size wr).alloc (Nat.le_refl _) _).drew).trans (hb3.mono (by simp))
              have HB4 := Lib.hid hb4
              clear hb3 hb4
            all_goals
              go_wp2_with fail
              go_loopw [10, 38] (fun v x wq => RfRel t p K fr R Qt q (w.heap.size + 1) w v x wq) (fun _ x _ => 2 - (RowKit.intOf x).toNat)
              case atStart =>
                first
                  | exact HSTART.out _ _ HQ1.out (HB4.out.alloc HB4.out.size _)
                  | exact HSTART.out _ _ HQ1.out ((HB4.out.setCell (Nat.le_refl _) _).setCell (Nat.le_refl _) _)
              case round =>
                clear HSTART HQ1
                obtain ⟨m, R', Q', hm, rfl, hmid, hset, hq, c0, c1, hs, hb⟩ := hrel
                have HMID := Lib.hid hmid
                have HSET := Lib.hid hset
                have HBW := Lib.hid hb
                have hRl' := nodup_len hmid.nd (fun x hx => (hmid.rch x hx).range (by omega) HFR.out)
                obtain ⟨g7, o7, c7, rfl, hg1, hg2, hg3, hg4, hg5, hg6⟩ := hq
                have hq : QAt wr (w.heap.size + 1 + 1) (.slice (some ⟨g7, o7, none⟩) Q'.length c7) Q' := ⟨g7, o7, c7, rfl, hg1, hg2, hg3, hg4, hg5, hg6⟩
                have HQ := Lib.hid hq
                clear hg5 hg6 hb hq
                by_cases hlm : m < 2
                · have hlm2 : (m : Int) < 2 := by omega
                  have HIM := HIX.out m hlm
                  have hie : (if m = 0 then Value.int .i64 a0 else Value.int .i64 a1) = Value.int .i64 (if m = 0 then a0 else a1) := by split <;> rfl
                  have hxr : 0 ≤ (if m = 0 then a0 else a1) ∧ (if m = 0 then a0 else a1) ≤ 60 := by split <;> omega
                  have hxe : (if m = 0 then a0 else a1) = nb t p K q (m : Int) := by
                    have : m = 0 ∨ m = 1 := by omega
                    rcases this with rfl | rfl
                    · rw [if_pos rfl]; exact H0.out.symm
                    · rw [if_neg (by omega)]; exact H1.out.symm
                  rw [hie] at HIM
                  obtain ⟨x, hx⟩ : ∃ x, (if m = 0 then a0 else a1) = x := ⟨_, rfl⟩
                  rw [hx] at HIM hxr hxe
                  have HXE := Lib.hid hxe
                  have hwf : (Lit.int .i64 x).wf = true := small_wf hxr.1 (by omega)
                  have HKEY := Lib.hid (keyOf_int_mk (P := Try.prog) Try.underlying3 hwf)
                  have hlook := (hset.isIn (by omega)).look hwf
                  clear hie hx hxr hxe hwf
                  by_cases hin : x ∈ R'
                  · have HMI := Lib.hid (HMID.out.old hlm HXE.out hin)
                    rw [decide_eq_true hin] at hlook
                    clear hin hset hmid
                    go_wp2_with fail
                    exact ⟨⟨m + 1, R', Q', hlm, by go_num, HMI.out, HSET.out, HQ.out, c0, c1, hs, HBW.out⟩, by simp [RowKit.intOf]; omega⟩
                  · have HMI := Lib.hid (HMID.out.put hlm HXE.out hin HQR.out (by omega) HFR.out)
                    rw [decide_eq_false hin] at hlook
                    have hq120 : Q'.length ≤ 121 := by
                      have h1 := HMID.out.meas
                      have h2 := HIN.out.meas
                      have h3 := HIN.out.bd
                      rw [List.length_cons] at h2
                      omega
                    have hql : Q'.length + 1 ≤ maxLen := by unfold maxLen; omega
                    have hqb : (Q'.length + 1) * 8 ≤ 140737488355328 := by omega
                    obtain ⟨n3, D3, hown3, hn3, hD3, hT3⟩ := hset
                    have HO3 := Lib.hid hown3
                    have HD3 := Lib.hid hD3
                    have HT3' := Lib.hid hT3
                    have hn4 : n3 + 1 ≤ 2 + (R' ++ [x]).length := by rw [List.length_append]; simp; omega
                    have HN4 := Lib.hid hn4
                    clear hown3 hD3 hT3 hin hmid hn4
                    by_cases hroom : Q'.length + 1 ≤ c7
                    · go_wp2_with (first
                        | (at_mapUpdate; refine wpList_mapUpdate_own _ rfl _ _ _ 48 rfl 3 4 keyedInt Try.underlying48 (plainElem (H := Unit) Try.prog 4) (w.heap.size + 1) n3 _ rfl HO3.out (by unfold maxLen; omega) _ _ _ rfl rfl HKEY.out _ [] (plainElem_bool Try.underlying4 true) ?_; intro w5 hown5 hgrow5; have HO5 := Lib.hid hown5; have HG5 := Lib.hid hgrow5; have HQ5 := Lib.hid (fun o => ((HQ.out.grown hgrow5 (Nat.lt_succ_self _)).kept ((Below.refl _ w5).alloc (Nat.le_refl _) o))); clear hown5 hgrow5)
                        | (at_builtin; refine wpList_append_arg _ rfl _ _ 24 rfl 3 j0 (.int .i64 0) 1 8 Try.underlying24 hj hj0 hj1 hj2 rfl (by decide) g7 o7 Q'.length c7 (Q'.map (Value.int .i64)) rfl (by simp) (fun j u hu => (HQ5.out _).olds j u hu) ⟨w5.heap.size, 0, none⟩ 1 1 [.int .i64 x] rfl rfl (fun j u hu => new_cell _ _ _ hu) (by simp [Value.oneCell']) (fun h j hjl => (HQ5.out _).spare h j hjl) hql hqb (fun _ => ?_) (fun h => absurd h (by omega))))
                      have hb5 : Below (w.heap.size + 1) wr w5 := (Below.refl (w.heap.size + 1) wr).grown HG5.out (by omega) (fun k e => by cases e; exact Nat.le_refl _)
                      have hs5 := Nat.lt_of_lt_of_le hs HG5.out.size
                      have hb6 : Below (w.heap.size + 1 + 1) w5 ((w5.alloc (.cells #[.int .i64 x] 3)).setCells g7 (o7 + Q'.length) [.int .i64 x]) := ((Below.refl _ w5).alloc hs5 _).setCell (p := ⟨g7, o7 + Q'.length, none⟩) hg1 _
                      have hb7 := hb5.trans (hb6.mono (Nat.le_succ _))
                      refine ⟨⟨m + 1, R' ++ [x], Q' ++ [x], hlm, by go_num, HMI.out, ⟨n3 + 1, _, ownsMap_under HO5.out hb6 (Nat.lt_succ_self _), HN4.out, fun z => ?_, HT3'.out.put HO3.out.isMap _⟩, by have h := (HQ5.out (.cells #[.int .i64 x] 3)).pushed (x := x) hroom; rwa [Nat.mul_one] at h, (hb7.cell (p := ⟨w.heap.size, 0, none⟩) (Nat.lt_succ_self _)).trans c0, (hb7.cell (p := ⟨w.heap.size, 1, none⟩) (Nat.lt_succ_self _)).trans c1, Nat.lt_of_lt_of_le hs hb7.size, HBW.out.trans (hb7.mono (Nat.le_succ _))⟩, by simp [RowKit.intOf]; omega⟩
                      rw [has_put_iff HO3.out.isMap, HD3.out z, List.mem_append, List.mem_singleton]
                    · go_wp2_with (first
                        | (at_mapUpdate; refine wpList_mapUpdate_own _ rfl _ _ _ 48 rfl 3 4 keyedInt Try.underlying48 (plainElem (H := Unit) Try.prog 4) (w.heap.size + 1) n3 _ rfl HO3.out (by unfold maxLen; omega) _ _ _ rfl rfl HKEY.out _ [] (plainElem_bool Try.underlying4 true) ?_; intro w5 hown5 hgrow5; have HO5 := Lib.hid hown5; have HG5 := Lib.hid hgrow5; have HQ5 := Lib.hid (fun o => ((HQ.out.grown hgrow5 (Nat.lt_succ_self _)).kept ((Below.refl _ w5).alloc (Nat.le_refl _) o))); clear hown5 hgrow5)
                        | (at_builtin; refine wpList_append_arg _ rfl _ _ 24 rfl 3 j0 (.int .i64 0) 1 8 Try.underlying24 hj hj0 hj1 hj2 rfl (by decide) g7 o7 Q'.length c7 (Q'.map (Value.int .i64)) rfl (by simp) (fun j u hu => (HQ5.out _).olds j u hu) ⟨w5.heap.size, 0, none⟩ 1 1 [.int .i64 x] rfl rfl (fun j u hu => new_cell _ _ _ hu) (by simp [Value.oneCell']) (fun h => absurd h hroom) hql hqb (fun h => absurd h hroom) ?_; intro _ v' w6 hown6 hgrow6))
                      have hb5 : Below (w.heap.size + 1) wr w5 := (Below.refl (w.heap.size + 1) wr).grown HG5.out (by omega) (fun k e => by cases e; exact Nat.le_refl _)
                      have hs5 := Nat.lt_of_lt_of_le hs HG5.out.size
                      have hb6 : Below (w.heap.size + 1 + 1) w5 w6 := ((Below.refl _ w5).alloc hs5 _).grown hgrow6 (by simp; omega) (fun k e => by cases e)
                      have hb7 := hb5.trans (hb6.mono (Nat.le_succ _))
                      refine ⟨⟨m + 1, R' ++ [x], Q' ++ [x], hlm, by go_num, HMI.out, ⟨n3 + 1, _, ownsMap_under HO5.out hb6 (Nat.lt_succ_self _), HN4.out, fun z => ?_, HT3'.out.put HO3.out.isMap _⟩, QAt.fresh hown6 rfl (by simp; omega), (hb7.cell (p := ⟨w.heap.size, 0, none⟩) (Nat.lt_succ_self _)).trans c0, (hb7.cell (p := ⟨w.heap.size, 1, none⟩) (Nat.lt_succ_self _)).trans c1, Nat.lt_of_lt_of_le hs hb7.size, HBW.out.trans (hb7.mono (Nat.le_succ _))⟩, by simp [RowKit.intOf]; omega⟩
                      rw [has_put_iff HO3.out.isMap, HD3.out z, List.mem_append, List.mem_singleton]
                · have HM : Hid (m = 2) := Lib.hid (by omega)
                  have hlm2 : ¬ ((m : Int) < 2) := by omega
                  have hfin : ∃ n', RfIn t p K fr R' Q' n' ∧ n' < n0 := by
                    have h := HMID.out
                    rw [HM.out] at h
                    exact h.fin HIN.out
                  obtain ⟨n', hn1, hn2⟩ := hfin
                  have hrf : RfAt t p K fr (w.heap.size + 1) w n' (.slice (some ⟨g7, o7, none⟩) Q'.length c7) wr := ⟨R', Q', hn1, HSET.out, HQ.out, c0, c1, hs, HBW.out⟩
                  have HRF := Lib.hid hrf
                  have HN2 := Lib.hid hn2
                  clear hlm hm hset hmid hrf hn1 hn2
                  go_wp2_with fail
                  exact ⟨⟨n', HRF.out⟩, HLT.out _ _ _ HRF.out HN2.out⟩
          · have HQ1 := Lib.hid (HQA.out hc1)
            go_wp2_with fail
            go_region_law (go_simp; go_at_call 24; refine (HNJ.out _).mono ?_; rintro e w3 ⟨rfl, hb3⟩; first | (have HT3 : Hid (TwoAt w3 wr.heap.size 0 0) := Lib.hid (by first | exact (two_fresh wr).below hb3 (by simp) | exact (two_fresh_drew wr).below hb3 (by simp)); obtain ⟨p0, p1, f0, f1, _⟩ := HT3.out) | skip)
            all_goals
              have hb4 : Below wr.heap.size wr w3 := by
                first
                  | exact hb3
                  | exact (Below.refl _ wr).drew.trans (hb3.mono (by simp))
                  | exact ((Below.refl wr.heap.size wr).alloc (Nat.le_refl _) _).trans (hb3.mono (by simp))
                  | exact (((Below.refl wr.heap.size wr).alloc (Nat.le_refl _) _).drew).trans (hb3.mono (by simp))
              have HB4 := Lib.hid hb4
              clear hb3 hb4
            all_goals
              go_wp2_with fail
              go_loopw [10, 38] (fun v x wq => RfRel t p K fr R Qt q (w.heap.size + 1) w v x wq) (fun _ x _ => 2 - (RowKit.intOf x).toNat)
              case atStart =>
                first
                  | exact HSTART.out _ _ HQ1.out (HB4.out.alloc HB4.out.size _)
                  | exact HSTART.out _ _ HQ1.out ((HB4.out.setCell (Nat.le_refl _) _).setCell (Nat.le_refl _) _)
              case round =>
                clear HSTART HQ1
                obtain ⟨m, R', Q', hm, rfl, hmid, hset, hq, c0, c1, hs, hb⟩ := hrel
                have HMID := Lib.hid hmid
                have HSET := Lib.hid hset
                have HBW := Lib.hid hb
                have hRl' := nodup_len hmid.nd (fun x hx => (hmid.rch x hx).range (by omega) HFR.out)
                obtain ⟨g7, o7, c7, rfl, hg1, hg2, hg3, hg4, hg5, hg6⟩ := hq
                have hq : QAt wr (w.heap.size + 1 + 1) (.slice (some ⟨g7, o7, none⟩) Q'.length c7) Q' := ⟨g7, o7, c7, rfl, hg1, hg2, hg3, hg4, hg5, hg6⟩
                have HQ := Lib.hid hq
                clear hg5 hg6 hb hq
                by_cases hlm : m < 2
                · have hlm2 : (m : Int) < 2 := by omega
                  have HIM := HIX.out m hlm
                  have hie : (if m = 0 then Value.int .i64 a0 else Value.int .i64 a1) = Value.int .i64 (if m = 0 then a0 else a1) := by split <;> rfl
                  have hxr : 0 ≤ (if m = 0 then a0 else a1) ∧ (if m = 0 then a0 else a1) ≤ 60 := by split <;> omega
                  have hxe : (if m = 0 then a0 else a1) = nb t p K q (m : Int) := by
                    have : m = 0 ∨ m = 1 := by omega
                    rcases this with rfl | rfl
                    · rw [if_pos rfl]; exact H0.out.symm
                    · rw [if_neg (by omega)]; exact H1.out.symm
                  rw [hie] at HIM
                  obtain ⟨x, hx⟩ : ∃ x, (if m = 0 then a0 else a1) = x := ⟨_, rfl⟩
                  rw [hx] at HIM hxr hxe
                  have HXE := Lib.hid hxe
                  have hwf : (Lit.int .i64 x).wf = true := small_wf hxr.1 (by omega)
                  have HKEY := Lib.hid (keyOf_int_mk (P := Try.prog) Try.underlying3 hwf)
                  have hlook := (hset.isIn (by omega)).look hwf
                  clear hie hx hxr hxe hwf
                  by_cases hin : x ∈ R'
                  · have HMI := Lib.hid (HMID.out.old hlm HXE.out hin)
                    rw [decide_eq_true hin] at hlook
                    clear hin hset hmid
                    go_wp2_with fail
                    exact ⟨⟨m + 1, R', Q', hlm, by go_num, HMI.out, HSET.out, HQ.out, c0, c1, hs, HBW.out⟩, by simp [RowKit.intOf]; omega⟩
                  · have HMI := Lib.hid (HMID.out.put hlm HXE.out hin HQR.out (by omega) HFR.out)
                    rw [decide_eq_false hin] at hlook
                    have hq120 : Q'.length ≤ 121 := by
                      have h1 := HMID.out.meas
                      have h2 := HIN.out.meas
                      have h3 := HIN.out.bd
                      rw [List.length_cons] at h2
                      omega
                    have hql : Q'.length + 1 ≤ maxLen := by unfold maxLen; omega
                    have hqb : (Q'.length + 1) * 8 ≤ 140737488355328 := by omega
                    obtain ⟨n3, D3, hown3, hn3, hD3, hT3⟩ := hset
                    have HO3 := Lib.hid hown3
                    have HD3 := Lib.hid hD3
                    have HT3' := Lib.hid hT3
                    have hn4 : n3 + 1 ≤ 2 + (R' ++ [x]).length := by rw [List.length_append]; simp; omega
                    have HN4 := Lib.hid hn4
                    clear hown3 hD3 hT3 hin hmid hn4
                    by_cases hroom : Q'.length + 1 ≤ c7
                    · go_wp2_with (first
                        | (at_mapUpdate; refine wpList_mapUpdate_own _ rfl _ _ _ 48 rfl 3 4 keyedInt Try.underlying48 (plainElem (H := Unit) Try.prog 4) (w.heap.size + 1) n3 _ rfl HO3.out (by unfold maxLen; omega) _ _ _ rfl rfl HKEY.out _ [] (plainElem_bool Try.underlying4 true) ?_; intro w5 hown5 hgrow5; have HO5 := Lib.hid hown5; have HG5 := Lib.hid hgrow5; have HQ5 := Lib.hid (fun o => ((HQ.out.grown hgrow5 (Nat.lt_succ_self _)).kept ((Below.refl _ w5).alloc (Nat.le_refl _) o))); clear hown5 hgrow5)
                        | (at_builtin; refine wpList_append_arg _ rfl _ _ 24 rfl 3 j0 (.int .i64 0) 1 8 Try.underlying24 hj hj0 hj1 hj2 rfl (by decide) g7 o7 Q'.length c7 (Q'.map (Value.int .i64)) rfl (by simp) (fun j u hu => (HQ5.out _).olds j u hu) ⟨w5.heap.size, 0, none⟩ 1 1 [.int .i64 x] rfl rfl (fun j u hu => new_cell _ _ _ hu) (by simp [Value.oneCell']) (fun h j hjl => (HQ5.out _).spare h j hjl) hql hqb (fun _ => ?_) (fun h => absurd h (by omega))))
                      have hb5 : Below (w.heap.size + 1) wr w5 := (Below.refl (w.heap.size + 1) wr).grown HG5.out (by omega) (fun k e => by cases e; exact Nat.le_refl _)
                      have hs5 := Nat.lt_of_lt_of_le hs HG5.out.size
                      have hb6 : Below (w.heap.size + 1 + 1) w5 ((w5.alloc (.cells #[.int .i64 x] 3)).setCells g7 (o7 + Q'.length) [.int .i64 x]) := ((Below.refl _ w5).alloc hs5 _).setCell (p := ⟨g7, o7 + Q'.length, none⟩) hg1 _
                      have hb7 := hb5.trans (hb6.mono (Nat.le_succ _))
                      refine ⟨⟨m + 1, R' ++ [x], Q' ++ [x], hlm, by go_num, HMI.out, ⟨n3 + 1, _, ownsMap_under HO5.out hb6 (Nat.lt_succ_self _), HN4.out, fun z => ?_, HT3'.out.put HO3.out.isMap _⟩, by have h := (HQ5.out (.cells #[.int .i64 x] 3)).pushed (x := x) hroom; rwa [Nat.mul_one] at h, (hb7.cell (p := ⟨w.heap.size, 0, none⟩) (Nat.lt_succ_self _)).trans c0, (hb7.cell (p := ⟨w.heap.size, 1, none⟩) (Nat.lt_succ_self _)).trans c1, Nat.lt_of_lt_of_le hs hb7.size, HBW.out.trans (hb7.mono (Nat.le_succ _))⟩, by simp [RowKit.intOf]; omega⟩
                      rw [has_put_iff HO3.out.isMap, HD3.out z, List.mem_append, List.mem_singleton]
                    · go_wp2_with (first
                        | (at_mapUpdate; refine wpList_mapUpdate_own _ rfl _ _ _ 48 rfl 3 4 keyedInt Try.underlying48 (plainElem (H := Unit) Try.prog 4) (w.heap.size + 1) n3 _ rfl HO3.out (by unfold maxLen; omega) _ _ _ rfl rfl HKEY.out _ [] (plainElem_bool Try.underlying4 true) ?_; intro w5 hown5 hgrow5; have HO5 := Lib.hid hown5; have HG5 := Lib.hid hgrow5; have HQ5 := Lib.hid (fun o => ((HQ.out.grown hgrow5 (Nat.lt_succ_self _)).kept ((Below.refl _ w5).alloc (Nat.le_refl _) o))); clear hown5 hgrow5)
                        | (at_builtin; refine wpList_append_arg _ rfl _ _ 24 rfl 3 j0 (.int .i64 0) 1 8 Try.underlying24 hj hj0 hj1 hj2 rfl (by decide) g7 o7 Q'.length c7 (Q'.map (Value.int .i64)) rfl (by simp) (fun j u hu => (HQ5.out _).olds j u hu) ⟨w5.heap.size, 0, none⟩ 1 1 [.int .i64 x] rfl rfl (fun j u hu => new_cell _ _ _ hu) (by simp [Value.oneCell']) (fun h => absurd h hroom) hql hqb (fun h => absurd h hroom) ?_; intro _ v' w6 hown6 hgrow6))
                      have hb5 : Below (w.heap.size + 1) wr w5 := (Below.refl (w.heap.size + 1) wr).grown HG5.out (by omega) (fun k e => by cases e; exact Nat.le_refl _)
                      have hs5 := Nat.lt_of_lt_of_le hs HG5.out.size
                      have hb6 : Below (w.heap.size + 1 + 1) w5 w6 := ((Below.refl _ w5).alloc hs5 _).grown hgrow6 (by simp; omega) (fun k e => by cases e)
                      have hb7 := hb5.trans (hb6.mono (Nat.le_succ _))
                      refine ⟨⟨m + 1, R' ++ [x], Q' ++ [x], hlm, by go_num, HMI.out, ⟨n3 + 1, _, ownsMap_under HO5.out hb6 (Nat.lt_succ_self _), HN4.out, fun z => ?_, HT3'.out.put HO3.out.isMap _⟩, QAt.fresh hown6 rfl (by simp; omega), (hb7.cell (p := ⟨w.heap.size, 0, none⟩) (Nat.lt_succ_self _)).trans c0, (hb7.cell (p := ⟨w.heap.size, 1, none⟩) (Nat.lt_succ_self _)).trans c1, Nat.lt_of_lt_of_le hs hb7.size, HBW.out.trans (hb7.mono (Nat.le_succ _))⟩, by simp [RowKit.intOf]; omega⟩
                      rw [has_put_iff HO3.out.isMap, HD3.out z, List.mem_append, List.mem_singleton]
                · have HM : Hid (m = 2) := Lib.hid (by omega)
                  have hlm2 : ¬ ((m : Int) < 2) := by omega
                  have hfin : ∃ n', RfIn t p K fr R' Q' n' ∧ n' < n0 := by
                    have h := HMID.out
                    rw [HM.out] at h
                    exact h.fin HIN.out
                  obtain ⟨n', hn1, hn2⟩ := hfin
                  have hrf : RfAt t p K fr (w.heap.size + 1) w n' (.slice (some ⟨g7, o7, none⟩) Q'.length c7) wr := ⟨R', Q', hn1, HSET.out, HQ.out, c0, c1, hs, HBW.out⟩
                  have HRF := Lib.hid hrf
                  have HN2 := Lib.hid hn2
                  clear hlm hm hset hmid hrf hn1 hn2
                  go_wp2_with fail
                  exact ⟨⟨n', HRF.out⟩, HLT.out _ _ _ HRF.out HN2.out⟩
end Go.Proofs.Ytpfclanblcngfaa
