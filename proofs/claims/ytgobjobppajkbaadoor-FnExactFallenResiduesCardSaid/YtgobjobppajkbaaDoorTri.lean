/-
  ROWS OF ROWS OF THREE (gen_tri.py): a row that grows, and what the laws do to it.
-/
import Derived.Test.YtgobjobppajkbaaDoorLists
import Derived.BigQuiet
import Derived.Deep.QuietTactic
import Derived.Deep.RegionWith
namespace Go.Proofs.YtgobjobppajkbaaDoor
open Go.RowKit
set_option linter.unusedVariables false

abbrev Z3 := Int × Int × Int
/-- The three that a block holds. -/
structure TriAt (w : World) (b : Nat) (r : Z3) : Prop where
  c0 : w.cell? ⟨b, 0, none⟩ = some (.int .i64 r.1)
  c1 : w.cell? ⟨b, 1, none⟩ = some (.int .i64 r.2.1)
  c2 : w.cell? ⟨b, 2, none⟩ = some (.int .i64 r.2.2)
  f0 : w.frozen? ⟨b, 0, none⟩ = false
  f1 : w.frozen? ⟨b, 1, none⟩ = false
  f2 : w.frozen? ⟨b, 2, none⟩ = false
theorem TriAt.of {w w' : World} {b : Nat} {r : Z3} (h : TriAt w b r) (he : w'.heap[b]? = w.heap[b]?) : TriAt w' b r :=
  ⟨(World.cell?_of_block (a := ⟨b, 0, none⟩) he).trans h.c0, (World.cell?_of_block (a := ⟨b, 1, none⟩) he).trans h.c1, (World.cell?_of_block (a := ⟨b, 2, none⟩) he).trans h.c2, (World.frozen?_of_block (a := ⟨b, 0, none⟩) he).trans h.f0, (World.frozen?_of_block (a := ⟨b, 1, none⟩) he).trans h.f1, (World.frozen?_of_block (a := ⟨b, 2, none⟩) he).trans h.f2⟩
/-- A slice of three that begins a block. -/
def slT (b : Nat) : Value := .slice (some ⟨b, 0, none⟩) 3 3
/-- A row of the call's own of rows of two, each in a block of its own. -/
def TrisAt (w : World) (B : Nat) (v : Value) (rs : List Z3) : Prop :=
  ∃ bs : List Nat, w.ownsRow B 32 1 v rs.length (bs.map slT) ∧ bs.length = rs.length ∧ bs.Nodup ∧ ∀ (k b : Nat), bs[k]? = some b → B ≤ b ∧ b < w.heap.size ∧ TriAt w b (rs.getD k (0, 0, 0))
theorem trisAt_nil (w : World) (B : Nat) : TrisAt w B (.slice none 0 0) [] := ⟨[], World.ownsRow_nil _ _ _ _, rfl, List.nodup_nil, by simp⟩
theorem TrisAt.kept {w w' : World} {B : Nat} {v : Value} {rs : List Z3} (h : TrisAt w B v rs) (hb : Below w.heap.size w w') : TrisAt w' B v rs := by
  obtain ⟨bs, h1, h2, h3, h4⟩ := h
  refine ⟨bs, ownsRow_kept h1 hb, h2, h3, fun k b hk => ?_⟩
  obtain ⟨a1, a2, a3⟩ := h4 k b hk
  exact ⟨a1, Nat.lt_of_lt_of_le a2 hb.size, a3.of (hb.block b a2)⟩
theorem TrisAt.base {w : World} {B B' : Nat} {v : Value} {rs : List Z3} (h : TrisAt w B v rs) (hB : B' ≤ B) : TrisAt w B' v rs := by
  obtain ⟨bs, h1, h2, h3, h4⟩ := h
  exact ⟨bs, ownsRow_base h1 hB, h2, h3, fun k b hk => ⟨Nat.le_trans hB (h4 k b hk).1, (h4 k b hk).2⟩⟩
theorem row_oneT {w : World} {B : Nat} {e : TypeId} {v : Value} {n : Nat} {xs : List Value} (h : w.ownsRow B e 1 v n xs) (hn : 0 < n) : ∃ g cap, v = .slice (some ⟨g, 0, none⟩) n cap ∧ B ≤ g ∧ g < w.heap.size ∧ n ≤ cap ∧ cap ≤ maxLen ∧ ∀ j x, xs[j]? = some x → w.cell? ⟨g, j, none⟩ = some x := by
  have hl := h.1
  rcases h.2 with ⟨_, h0⟩ | ⟨g, cap, cur, rfl, hB, hg, hc, hm, _⟩
  · omega
  · refine ⟨g, cap, rfl, hB, (Array.getElem?_eq_some_iff.1 hg).1, hc, hm, fun j x hx => ?_⟩
    have hj : j < xs.length := (List.getElem?_eq_some_iff.1 hx).1
    rw [World.ownsRow.cellAt h j (by omega), hx]
/-- A row's own block is none of those of its rows. -/
theorem tris_apart {w : World} {B : Nat} {v : Value} {n : Nat} {bs : List Nat} (h : w.ownsRow B 32 1 v n (bs.map slT)) {k b : Nat} (hk : bs[k]? = some b) {r : Z3} (hp : TriAt w b r) : v.ownBlock ≠ some b := by
  intro e
  have hl := h.1
  have hkl : k < bs.length := (List.getElem?_eq_some_iff.1 hk).1
  simp at hl
  obtain ⟨g, cap, rfl, _, _, _, _, hc⟩ := row_oneT h (by omega)
  simp [Value.ownBlock] at e
  subst e
  have h0 : bs[0]? = some (bs[0]'(by omega)) := List.getElem?_eq_getElem _
  have := hc 0 _ (by rw [List.getElem?_map, h0]; rfl)
  rw [hp.c0] at this
  simp [slT] at this
/-- One more. -/
theorem tris_snoc {wr W w5 : World} {B b : Nat} {bs : List Nat} {v v5 : Value} {rs : List Z3} {r : Z3} (h1 : wr.ownsRow B 32 1 v rs.length (bs.map slT)) (h2 : bs.length = rs.length) (h3 : bs.Nodup)
    (h4 : ∀ (k b : Nat), bs[k]? = some b → B ≤ b ∧ b < wr.heap.size ∧ TriAt wr b (rs.getD k (0, 0, 0))) (hb : Below wr.heap.size wr W) (hB : B ≤ wr.heap.size) (hbn : wr.heap.size ≤ b) (hbW : b < W.heap.size) (hp : TriAt W b r)
    (hown : w5.ownsRow B 32 1 v5 (rs.length + 1) (bs.map slT ++ [slT b])) (hg : W.grownBy w5 v.ownBlock) : TrisAt w5 B v5 (rs ++ [r]) := by
  have hne : ∀ k, v.ownBlock = some k → k < wr.heap.size := fun k e => (World.ownsRow.lt h1 k e).2
  refine ⟨bs ++ [b], by simpa using hown, by simp [h2], ?_, fun k c hk => ?_⟩
  · rw [List.nodup_append]
    refine ⟨h3, by simp, fun x hx y hy e => ?_⟩
    obtain rfl : y = b := by simpa using hy
    subst e
    obtain ⟨k, hk, hk2⟩ := List.getElem_of_mem hx
    have := (h4 k x (by rw [List.getElem?_eq_getElem hk, hk2])).2.1
    omega
  · by_cases hkl : k < bs.length
    · rw [List.getElem?_append_left hkl] at hk
      obtain ⟨a1, a2, a3⟩ := h4 k c hk
      have hap := tris_apart h1 hk a3
      refine ⟨a1, by have := hb.size; have := hg.size; omega, ?_⟩
      have e : (rs ++ [r]).getD k (0, 0, 0) = rs.getD k (0, 0, 0) := by
        rw [List.getD_eq_getElem?_getD, List.getElem?_append_left (by omega), ← List.getD_eq_getElem?_getD]
      rw [e]
      exact (a3.of (hb.block c a2)).of (hg.block c (Nat.lt_of_lt_of_le a2 hb.size) (fun x => hap x.symm))
    · rw [List.getElem?_append_right (by omega)] at hk
      obtain rfl : k = bs.length := by
        have := (List.getElem?_eq_some_iff.1 hk).1
        simp at this
        omega
      obtain rfl : b = c := by simpa using hk
      have e : (rs ++ [r]).getD bs.length (0, 0, 0) = r := by
        rw [List.getD_eq_getElem?_getD, List.getElem?_append_right (by omega), h2]; simp
      rw [e]
      exact ⟨by omega, Nat.lt_of_lt_of_le hbW hg.size, hp.of (hg.block b hbW (fun x => by have := hne b x.symm; omega))⟩

theorem new_cell_at3 (w : World) (x : Value) (T : TypeId) {s : Nat} (hs : w.heap.size = s) {j : Nat} {u : Value} (h : [x][j]? = some u) : (w.alloc (.cells #[x] T)).cell? ((⟨s, 0, none⟩ : Addr).add j) = some u := by
  subst hs
  exact new_cell w x T h
theorem info36T : (Tryd.prog.info? 32).map (fun i => (i.zero, i.size, i.bytes)) = some (some (.slice none 0 0), 1, 24) := by kernel_rfl
theorem tri_new (w : World) (x y z : Int) (T : TypeId) : TriAt (w.alloc (.cells #[.int .i64 x, .int .i64 y, .int .i64 z] T)) w.heap.size (x, y, z) := by
  refine ⟨?_, ?_, ?_, ?_, ?_, ?_⟩ <;> go_simp
theorem take_snoc3 {rs : List Z3} {j : Nat} (h : j < rs.length) : rs.take (j + 1) = rs.take j ++ [rs.getD j (0, 0, 0)] := by
  rw [List.take_add_one, List.getElem?_eq_getElem h, List.getD_eq_getElem?_getD, List.getElem?_eq_getElem h]; rfl

theorem TriAt.row {w : World} {b : Nat} {r : Z3} (h : TriAt w b r) : IntRow w b [r.1, r.2.1, r.2.2] := by
  intro j hj
  match j, hj with
  | 0, _ => exact ⟨h.c0, h.f0⟩
  | 1, _ => exact ⟨h.c1, h.f1⟩
  | 2, _ => exact ⟨h.c2, h.f2⟩
theorem eqIntS_tri (b b' : Nat) (r : Z3) (w0 w : World) (hb0 : Below w0.heap.size w0 w) (h : TriAt w0 b r) (h' : TriAt w0 b' r) (hl : b < w0.heap.size) (hl' : b' < w0.heap.size) :
    Calls Tryd.prog 42 #[slT b, slT b'] w fun e w' => e = .returned (.bool true) ∧ Below w0.heap.size w0 w' := by
  have h2 := (h.of (hb0.block b hl)).row
  have h2' := (h'.of (hb0.block b' hl')).row
  have := eqIntS_row [r.1, r.2.1, r.2.2] b 3 b' 3 w (Nat.lt_of_lt_of_le hl hb0.size) (Nat.lt_of_lt_of_le hl' hb0.size) (by simp [maxLen]) h2 h2'
  exact this.mono fun e w' ⟨h1, h3⟩ => ⟨h1, hb0.trans (h3.mono hb0.size)⟩

set_option maxHeartbeats 1000000 in
theorem markIntS_tri (b : Nat) (r : Z3) (k : Int) (w : World) (h : TriAt w b r) (hk0 : 0 ≤ k) (hk : k ≤ 1000000) (hb : b < w.heap.size) :
    Calls Tryd.prog 43 #[slT b, .int .i64 k] w fun e w' => e = .returned (.int .i64 (k + 3)) ∧ Touch b (b + 1) w w' ∧ TriAt w' b (k, k + 1, k + 2) := by
  obtain ⟨c0, c1, c2, f0, f1, f2⟩ := h
  unfold slT
  go_enter Tryd.func43, Tryd.ntmps43
  go_wp2_with fail
  refine wp_loop_rounds 4 ?_
  rw [rounds_succ]
  go_wp2_with fail
  rw [rounds_succ]
  go_wp2_with fail
  rw [rounds_succ]
  go_wp2_with fail
  rw [rounds_succ]
  go_wp2_with fail
  go_ret
  refine ⟨by first | rfl | (rw [show k + 1 + 1 + 1 = k + 3 by omega]; rfl), (((Touch.refl b (b + 1) w).setCell (p := ⟨b, 0, none⟩) (Nat.le_refl _) (Nat.lt_succ_self _) _).setCell (p := ⟨b, 1, none⟩) (Nat.le_refl _) (Nat.lt_succ_self _) _).setCell (p := ⟨b, 2, none⟩) (Nat.le_refl _) (Nat.lt_succ_self _) _, ?_, ?_, ?_, ?_, ?_, ?_⟩
  · simp [go_sem, c0]
  · simp [go_sem, c1]
  · have e : k + 1 + 1 = k + 2 := by omega
    simp [go_sem, c2, e]
  · simp [go_sem, f0]
  · simp [go_sem, f1]
  · simp [go_sem, f2]
set_option maxHeartbeats 1000000 in
theorem heldIntS_tri (b : Nat) (k : Int) (w : World) (h : TriAt w b (k, k + 1, k + 2)) (hk0 : 0 ≤ k) (hk : k ≤ 1000000) (hb : b < w.heap.size) :
    Calls Tryd.prog 44 #[slT b, .int .i64 k] w fun e w' => e = .returned (.int .i64 (k + 3)) ∧ w = w' := by
  obtain ⟨c0, c1, c2, f0, f1, f2⟩ := h
  dsimp only at c0 c1 c2
  rw [show k + 2 = k + 1 + 1 by omega] at c2
  unfold slT
  go_enter Tryd.func44, Tryd.ntmps44
  go_wp2_with fail
  refine wp_loop_rounds 4 ?_
  rw [rounds_succ]
  go_wp2_with fail
  rw [rounds_succ]
  go_wp2_with fail
  rw [rounds_succ]
  go_wp2_with fail
  rw [rounds_succ]
  go_wp2_with fail
  go_ret
  exact ⟨by first | rfl | (rw [show k + 1 + 1 + 1 = k + 3 by omega]; rfl), rfl⟩
theorem TrisAt.at {w : World} {B : Nat} {v : Value} {rs : List Z3} (h : TrisAt w B v rs) : ∃ a cap, v = .slice a rs.length cap ∧ ∀ k, k < rs.length → ∃ g b, a = some ⟨g, 0, none⟩ ∧ B ≤ g ∧ g < w.heap.size ∧ w.cell? ⟨g, k, none⟩ = some (slT b) ∧ B ≤ b ∧ b < w.heap.size ∧ TriAt w b (rs.getD k (0, 0, 0)) := by
  obtain ⟨bs, h1, h2, h3, h4⟩ := h
  by_cases hn : 0 < rs.length
  · obtain ⟨g, cap, rfl, a1, a2, _, _, a3⟩ := row_oneT h1 hn
    refine ⟨_, cap, rfl, fun k hk => ?_⟩
    have hb : bs[k]? = some (bs[k]'(by omega)) := List.getElem?_eq_getElem _
    obtain ⟨b1, b2, b3⟩ := h4 k _ hb
    exact ⟨g, _, rfl, a1, a2, a3 k _ (by rw [List.getElem?_map, hb]; rfl), b1, b2, b3⟩
  · have e : rs.length = 0 := by omega
    rcases h1.2 with ⟨rfl, _⟩ | ⟨g, cap, cur, rfl, _⟩
    · exact ⟨none, 0, by rw [e], fun k hk => by omega⟩
    · exact ⟨_, cap, rfl, fun k hk => by omega⟩

set_option maxRecDepth 100000 in
set_option maxHeartbeats 2000000 in
theorem eqIntSS_tris (rs : List Z3) (v v' : Value) (B B' : Nat) (w : World) (hl : rs.length ≤ 5000) (h : TrisAt w B v rs) (h' : TrisAt w B' v' rs) :
    Calls Tryd.prog 11 #[v, v'] w fun e w' => e = .returned (.bool true) ∧ Below w.heap.size w w' := by
  obtain ⟨a, cap, rfl, hx⟩ := h.at
  obtain ⟨a', cap', rfl, hx'⟩ := h'.at
  generalize hK : rs.length = K at *
  have hK1 : (K : Int) ≤ 5000 := by omega
  have HX := Lib.hid hx
  have HX' := Lib.hid hx'
  clear hx hx' hK hl h h'
  go_enter Tryd.func11, Tryd.ntmps11
  go_wp2_with fail
  go_loopw [5] (fun i wr => ∃ k : Nat, k ≤ K ∧ i = .int .i64 k ∧ Below w.heap.size w wr) (fun i _ => K - (RowKit.intOf i).toNat)
  case atStart => exact ⟨0, Nat.zero_le _, rfl, Below.refl _ _⟩
  case round =>
    obtain ⟨k, hk, rfl, hb⟩ := hrel
    have HB := Lib.hid hb
    by_cases hlt : k < K
    · obtain ⟨g, b, rfl, _, hg, q0, _, hbl, hp⟩ := HX.out k hlt
      obtain ⟨g', b', rfl, _, hg', q0', _, hbl', hp'⟩ := HX'.out k hlt
      have q : wr.cell? ⟨g, k, none⟩ = some (.slice (some ⟨b, 0, none⟩) 3 3) := (hb.cell (p := ⟨g, k, none⟩) hg).trans q0
      have q' : wr.cell? ⟨g', k, none⟩ = some (.slice (some ⟨b', 0, none⟩) 3 3) := (hb.cell (p := ⟨g', k, none⟩) hg').trans q0'
      have HQ := Lib.hid (fun w2 (hb2 : Below w.heap.size w w2) => eqIntS_tri b b' _ w w2 hb2 hp hp' hbl hbl')
      have hk0 : (0 : Int) ≤ (k : Int) := by omega
      have hk1 : (k : Int) < (K : Int) := by omega
      clear hb q0 q0' hp hp' hbl hbl'
      go_wp2_with fail
      go_region_with (go_at_call 42; refine (HQ.out _ (by first | exact HB.out | exact HB.out.drew | exact HB.out.drew.drew)).mono ?_; rintro e w2 ⟨rfl, hb2⟩)
      all_goals
        try go_wp2
        exact ⟨⟨k + 1, hlt, by go_num, by first | exact hb2 | exact hb2.drew⟩, by simp [RowKit.intOf]; omega⟩
    · obtain rfl : k = K := by omega
      clear hb
      go_wp2_with fail
      go_ret
      exact ⟨rfl, HB.out⟩

theorem Touch.grown1T {b : Nat} {w w' : World} (h : Touch b (b + 1) w w') : w.grownBy w' (some b) := ⟨h.os, h.tape, h.output, h.size, fun k hk hne => h.block k hk (by have : k ≠ b := fun e => hne (by rw [e]); omega)⟩
/-- The numbers 1, 2, .. in threes. -/
def markT (n : Nat) : List Z3 := (List.range n).map fun (i : Nat) => (3 * (i : Int) + 1, 3 * (i : Int) + 2, 3 * (i : Int) + 3)
theorem markT_length (n : Nat) : (markT n).length = n := by simp [markT]
theorem markT_at {n k : Nat} (h : k < n) : (markT n).getD k (0, 0, 0) = (3 * (k : Int) + 1, 3 * (k : Int) + 2, 3 * (k : Int) + 3) := by
  simp [markT, List.getD_eq_getElem?_getD, h]

set_option maxRecDepth 100000 in
set_option maxHeartbeats 2000000 in
theorem markIntSS_tris (rs : List Z3) (v : Value) (B : Nat) (w : World) (hl : rs.length ≤ 5000) (hB : B ≤ w.heap.size) (h : TrisAt w B v rs) :
    Calls Tryd.prog 12 #[v, .int .i64 1] w fun e w' => e = .returned (.int .i64 (3 * (rs.length : Int) + 1)) ∧ Below B w w' ∧ TrisAt w' B v (markT rs.length) := by
  obtain ⟨a, cap, rfl, hx⟩ := h.at
  obtain ⟨bs, h1, h2, h3, h4⟩ := h
  have HX : Hid (∀ k, k < rs.length → ∃ g b, a = some ⟨g, 0, none⟩ ∧ bs[k]? = some b) := Lib.hid (fun k hk => by
    obtain ⟨g, b, e, _⟩ := hx k hk
    exact ⟨g, bs[k]'(by omega), e, List.getElem?_eq_getElem _⟩)
  generalize hK : rs.length = K at *
  have hK1 : (K : Int) ≤ 5000 := by omega
  have HND := Lib.hid h3
  have HBL := Lib.hid h2
  have H1 := Lib.hid h1
  have H4 : Hid (∀ (k b : Nat), bs[k]? = some b → B ≤ b ∧ b < w.heap.size ∧ TriAt w b (if k < 0 then (3 * (k : Int) + 1, 3 * (k : Int) + 2, 3 * (k : Int) + 3) else rs.getD k (0, 0, 0))) := Lib.hid (fun k b hk => by rw [if_neg (by omega)]; exact h4 k b hk)
  clear hx hK hl h1 h2 h3 h4
  go_enter Tryd.func12, Tryd.ntmps12
  go_wp2_with fail
  go_loopw [1, 5] (fun m i wr => ∃ j : Nat, j ≤ K ∧ i = .int .i64 j ∧ m = .int .i64 (3 * (j : Int) + 1) ∧ wr.ownsRow B 32 1 (.slice a K cap) K (bs.map slT) ∧ (∀ (k b : Nat), bs[k]? = some b → B ≤ b ∧ b < wr.heap.size ∧ TriAt wr b (if k < j then (3 * (k : Int) + 1, 3 * (k : Int) + 2, 3 * (k : Int) + 3) else rs.getD k (0, 0, 0))) ∧ Below B w wr) (fun _ i _ => K - (RowKit.intOf i).toNat)
  case atStart => exact ⟨0, Nat.zero_le _, rfl, rfl, H1.out, H4.out, Below.refl _ _⟩
  case round =>
    obtain ⟨j, hj, rfl, rfl, hrow, hall, hbel⟩ := hrel
    have HROW := Lib.hid hrow
    have HALL := Lib.hid hall
    have HB := Lib.hid hbel
    by_cases hlt : j < K
    · obtain ⟨g, b, rfl, hbj⟩ := HX.out j hlt
      obtain ⟨g2, cap2, e2, _, hg, _, _, hc⟩ := row_oneT hrow (by omega)
      obtain rfl : g2 = g := by injection e2 with e3; injection e3 with e4; injection e4 with e5; exact e5.symm
      have q : wr.cell? ⟨g2, j, none⟩ = some (.slice (some ⟨b, 0, none⟩) 3 3) := hc j _ (by rw [List.getElem?_map, hbj]; rfl)
      obtain ⟨hb1, hb2, hpa⟩ := hall j b hbj
      have hap := tris_apart hrow hbj hpa
      have HAP := Lib.hid hap
      have HBJ := Lib.hid hbj
      have HB12 := Lib.hid (And.intro hb1 hb2)
      have HMK := Lib.hid (markIntS_tri b _ (3 * (j : Int) + 1) wr hpa (by omega) (by omega) hb2)
      have hlt2 : (j : Int) < (K : Int) := by omega
      clear hrow hall hbel hc hpa hap e2 hbj hb1 hb2
      go_wp2_with fail
      refine HMK.out.mono ?_
      rintro e w2 ⟨rfl, ht, hp2⟩
      have hg1 := Touch.grown1T ht
      have hrow2 : w2.ownsRow B 32 1 (.slice (some ⟨g2, 0, none⟩) K cap) K (bs.map slT) := HROW.out.kept hg1 (.inr HAP.out)
      have hall2 : ∀ (k c : Nat), bs[k]? = some c → B ≤ c ∧ c < w2.heap.size ∧ TriAt w2 c (if k < j + 1 then (3 * (k : Int) + 1, 3 * (k : Int) + 2, 3 * (k : Int) + 3) else rs.getD k (0, 0, 0)) := by
        intro k c hk
        obtain ⟨a1, a2, a3⟩ := HALL.out k c hk
        refine ⟨a1, Nat.lt_of_lt_of_le a2 hg1.size, ?_⟩
        by_cases e : k = j
        · subst e
          have ecb : c = b := by have := HBJ.out; rw [hk] at this; injection this
          subst ecb
          rw [if_pos (Nat.lt_succ_self _)]
          rw [show 3 * (k : Int) + 1 + 1 = 3 * (k : Int) + 2 by omega, show 3 * (k : Int) + 1 + 2 = 3 * (k : Int) + 3 by omega] at hp2
          exact hp2
        · have hne : c ≠ b := fun ec => by
            subst ec
            have l1 := (List.getElem?_eq_some_iff.1 hk).1
            have l2 := (List.getElem?_eq_some_iff.1 HBJ.out).1
            have := (List.getElem_inj (h₀ := l1) (h₁ := l2) HND.out).1 (by rw [(List.getElem?_eq_some_iff.1 hk).2, (List.getElem?_eq_some_iff.1 HBJ.out).2])
            exact e this
          have ei : (if k < j + 1 then (3 * (k : Int) + 1, 3 * (k : Int) + 2, 3 * (k : Int) + 3) else rs.getD k (0, 0, 0)) = (if k < j then (3 * (k : Int) + 1, 3 * (k : Int) + 2, 3 * (k : Int) + 3) else rs.getD k (0, 0, 0)) := by
            by_cases h : k < j
            · rw [if_pos h, if_pos (by omega)]
            · rw [if_neg h, if_neg (by omega)]
          rw [ei]
          exact a3.of (hg1.block c a2 (fun x => hne (by injection x)))
      have hbel2 : Below B w w2 := HB.out.grown hg1 (Nat.le_trans hB HB.out.size) (fun k e => by cases e; exact HB12.out.1)
      have HR2 := Lib.hid hrow2
      have HA2 := Lib.hid hall2
      have HB2 := Lib.hid hbel2
      clear ht hp2 hg1 hrow2 hall2 hbel2 q
      go_wp2_with fail
      exact ⟨⟨j + 1, hlt, by go_num, by go_num, HR2.out, HA2.out, HB2.out⟩, by simp [RowKit.intOf]; omega⟩
    · obtain rfl : j = K := by omega
      have hlt2 : ¬ ((j : Int) < (j : Int)) := by omega
      have hfin : TrisAt wr B (.slice a j cap) (markT j) := by
        refine ⟨bs, by rw [markT_length]; exact hrow, by rw [markT_length]; exact HBL.out, HND.out, fun k b hk => ?_⟩
        have hkl : k < j := by have := (List.getElem?_eq_some_iff.1 hk).1; have := HBL.out; omega
        obtain ⟨a1, a2, a3⟩ := hall k b hk
        rw [if_pos hkl] at a3
        rw [markT_at hkl]
        exact ⟨a1, a2, a3⟩
      have HFIN := Lib.hid hfin
      clear hrow hall hbel hfin
      go_wp2_with fail
      go_ret
      exact ⟨rfl, HB.out, HFIN.out⟩

set_option maxRecDepth 100000 in
set_option maxHeartbeats 2000000 in
theorem heldIntSS_tris (n : Nat) (v : Value) (B : Nat) (w : World) (hl : n ≤ 5000) (h : TrisAt w B v (markT n)) :
    Calls Tryd.prog 13 #[v, .int .i64 1] w fun e w' => e = .returned (.int .i64 (3 * (n : Int) + 1)) ∧ w = w' := by
  obtain ⟨a, cap, rfl, hx⟩ := h.at
  rw [markT_length] at hx ⊢
  have hK1 : (n : Int) ≤ 5000 := by omega
  have HX := Lib.hid hx
  clear hx hl h
  go_enter Tryd.func13, Tryd.ntmps13
  go_wp2_with fail
  go_loop [1, 5] (fun m i => ∃ j : Nat, j ≤ n ∧ i = .int .i64 j ∧ m = .int .i64 (3 * (j : Int) + 1)) (fun _ i => n - (RowKit.intOf i).toNat)
  case atStart => exact ⟨0, Nat.zero_le _, rfl, rfl⟩
  case round =>
    obtain ⟨j, hj, rfl, rfl⟩ := hrel
    by_cases hlt : j < n
    · obtain ⟨g, b, rfl, _, hg, q0, _, hbl, hp⟩ := HX.out j hlt
      rw [markT_at hlt] at hp
      have q : w.cell? ⟨g, j, none⟩ = some (.slice (some ⟨b, 0, none⟩) 3 3) := q0
      have HQ := Lib.hid (heldIntS_tri b (3 * (j : Int) + 1) w (by rw [show 3 * (j : Int) + 1 + 1 = 3 * (j : Int) + 2 by omega, show 3 * (j : Int) + 1 + 2 = 3 * (j : Int) + 3 by omega]; exact hp) (by omega) (by omega) hbl)
      have hlt2 : (j : Int) < (n : Int) := by omega
      clear q0 hp
      go_wp2_with (go_at_call 44; refine HQ.out.mono ?_; rintro e w2 ⟨rfl, rfl⟩)
      exact ⟨⟨j + 1, hlt, by go_num, by go_num⟩, by simp [RowKit.intOf]; omega⟩
    · obtain rfl : j = n := by omega
      have hlt2 : ¬ ((j : Int) < (j : Int)) := by omega
      go_wp2_with fail
      go_ret
      exact ⟨rfl, rfl⟩
end Go.Proofs.YtgobjobppajkbaaDoor
