/-
  ROWS OF PAIRS: 'pairsOf' of the program, 'reRecords' of the model, and what the laws do to a row of rows.
  'reRecords' of the model; 'eqIntSS', 'markIntSS', 'heldIntSS' of the laws at rows of pairs.
  'eqIntSS', 'markIntSS', 'heldIntSS' of the laws at rows of pairs.
-/
import Derived.Test.YtponmblponfdaaaRecI
import Derived.Test.YtponmblponfdaaaSlices
import Derived.BigQuiet
import Derived.Deep.QuietTactic
import Derived.Deep.RegionWith
namespace Go.Proofs.Ytponmblponfdaaa
open Go.RowKit
set_option linter.unusedVariables false

/-- The pair that a block holds. -/
def PairAt (w : World) (b : Nat) (r : Int × Int) : Prop :=
  w.cell? ⟨b, 0, none⟩ = some (.int .i64 r.1) ∧ w.cell? ⟨b, 1, none⟩ = some (.int .i64 r.2) ∧ w.frozen? ⟨b, 0, none⟩ = false ∧ w.frozen? ⟨b, 1, none⟩ = false
theorem PairAt.of {w w' : World} {b : Nat} {r : Int × Int} (h : PairAt w b r) (he : w'.heap[b]? = w.heap[b]?) : PairAt w' b r :=
  ⟨(World.cell?_of_block (a := ⟨b, 0, none⟩) he).trans h.1, (World.cell?_of_block (a := ⟨b, 1, none⟩) he).trans h.2.1, (World.frozen?_of_block (a := ⟨b, 0, none⟩) he).trans h.2.2.1, (World.frozen?_of_block (a := ⟨b, 1, none⟩) he).trans h.2.2.2⟩
/-- A slice of two that begins a block. -/
def slP (b : Nat) : Value := .slice (some ⟨b, 0, none⟩) 2 2
/-- A row of the call's own of rows of two, each in a block of its own. -/
def PairsAt (w : World) (B : Nat) (v : Value) (rs : List (Int × Int)) : Prop :=
  ∃ bs : List Nat, w.ownsRow B 31 1 v rs.length (bs.map slP) ∧ bs.length = rs.length ∧ bs.Nodup ∧ ∀ (k b : Nat), bs[k]? = some b → B ≤ b ∧ b < w.heap.size ∧ PairAt w b (rs.getD k (0, 0))
theorem pairsAt_nil (w : World) (B : Nat) : PairsAt w B (.slice none 0 0) [] := ⟨[], World.ownsRow_nil _ _ _ _, rfl, List.nodup_nil, by simp⟩
theorem PairsAt.kept {w w' : World} {B : Nat} {v : Value} {rs : List (Int × Int)} (h : PairsAt w B v rs) (hb : Below w.heap.size w w') : PairsAt w' B v rs := by
  obtain ⟨bs, h1, h2, h3, h4⟩ := h
  refine ⟨bs, ownsRow_kept h1 hb, h2, h3, fun k b hk => ?_⟩
  obtain ⟨a1, a2, a3⟩ := h4 k b hk
  exact ⟨a1, Nat.lt_of_lt_of_le a2 hb.size, a3.of (hb.block b a2)⟩
theorem PairsAt.base {w : World} {B B' : Nat} {v : Value} {rs : List (Int × Int)} (h : PairsAt w B v rs) (hB : B' ≤ B) : PairsAt w B' v rs := by
  obtain ⟨bs, h1, h2, h3, h4⟩ := h
  exact ⟨bs, ownsRow_base h1 hB, h2, h3, fun k b hk => ⟨Nat.le_trans hB (h4 k b hk).1, (h4 k b hk).2⟩⟩
theorem row_one {w : World} {B : Nat} {e : TypeId} {v : Value} {n : Nat} {xs : List Value} (h : w.ownsRow B e 1 v n xs) (hn : 0 < n) : ∃ g cap, v = .slice (some ⟨g, 0, none⟩) n cap ∧ B ≤ g ∧ g < w.heap.size ∧ n ≤ cap ∧ cap ≤ maxLen ∧ ∀ j x, xs[j]? = some x → w.cell? ⟨g, j, none⟩ = some x := by
  have hl := h.1
  rcases h.2 with ⟨_, h0⟩ | ⟨g, cap, cur, rfl, hB, hg, hc, hm, _⟩
  · omega
  · refine ⟨g, cap, rfl, hB, (Array.getElem?_eq_some_iff.1 hg).1, hc, hm, fun j x hx => ?_⟩
    have hj : j < xs.length := (List.getElem?_eq_some_iff.1 hx).1
    rw [World.ownsRow.cellAt h j (by omega), hx]
/-- A row's own block is none of those of its rows. -/
theorem pairs_apart {w : World} {B : Nat} {v : Value} {n : Nat} {bs : List Nat} (h : w.ownsRow B 31 1 v n (bs.map slP)) {k b : Nat} (hk : bs[k]? = some b) {r : Int × Int} (hp : PairAt w b r) : v.ownBlock ≠ some b := by
  intro e
  have hl := h.1
  have hkl : k < bs.length := (List.getElem?_eq_some_iff.1 hk).1
  simp at hl
  obtain ⟨g, cap, rfl, _, _, _, _, hc⟩ := row_one h (by omega)
  simp [Value.ownBlock] at e
  subst e
  have h0 : bs[0]? = some (bs[0]'(by omega)) := List.getElem?_eq_getElem _
  have := hc 0 _ (by rw [List.getElem?_map, h0]; rfl)
  rw [hp.1] at this
  simp [slP] at this
/-- One more. -/
theorem pairs_snoc {wr W w5 : World} {B b : Nat} {bs : List Nat} {v v5 : Value} {rs : List (Int × Int)} {r : Int × Int} (h1 : wr.ownsRow B 31 1 v rs.length (bs.map slP)) (h2 : bs.length = rs.length) (h3 : bs.Nodup)
    (h4 : ∀ (k b : Nat), bs[k]? = some b → B ≤ b ∧ b < wr.heap.size ∧ PairAt wr b (rs.getD k (0, 0))) (hb : Below wr.heap.size wr W) (hB : B ≤ wr.heap.size) (hbn : wr.heap.size ≤ b) (hbW : b < W.heap.size) (hp : PairAt W b r)
    (hown : w5.ownsRow B 31 1 v5 (rs.length + 1) (bs.map slP ++ [slP b])) (hg : W.grownBy w5 v.ownBlock) : PairsAt w5 B v5 (rs ++ [r]) := by
  have hne : ∀ k, v.ownBlock = some k → k < wr.heap.size := fun k e => (World.ownsRow.lt h1 k e).2
  refine ⟨bs ++ [b], by simpa using hown, by simp [h2], ?_, fun k c hk => ?_⟩
  · rw [List.nodup_append]
    refine ⟨h3, by simp, fun x hx y hy e => ?_⟩
    obtain rfl : y = b := by simpa using hy
    subst e
    obtain ⟨k, hk, hk2⟩ := List.getElem_of_mem hx
    have := (h4 k x (by rw [List.getElem?_eq_getElem hk, hk2])).2.1
    omega
  · by_cases hkl : k < bs.length
    · rw [List.getElem?_append_left hkl] at hk
      obtain ⟨a1, a2, a3⟩ := h4 k c hk
      have hap := pairs_apart h1 hk a3
      refine ⟨a1, by have := hb.size; have := hg.size; omega, ?_⟩
      have e : (rs ++ [r]).getD k (0, 0) = rs.getD k (0, 0) := by
        rw [List.getD_eq_getElem?_getD, List.getElem?_append_left (by omega), ← List.getD_eq_getElem?_getD]
      rw [e]
      exact (a3.of (hb.block c a2)).of (hg.block c (Nat.lt_of_lt_of_le a2 hb.size) (fun x => hap x.symm))
    · rw [List.getElem?_append_right (by omega)] at hk
      obtain rfl : k = bs.length := by
        have := (List.getElem?_eq_some_iff.1 hk).1
        simp at this
        omega
      obtain rfl : b = c := by simpa using hk
      have e : (rs ++ [r]).getD bs.length (0, 0) = r := by
        rw [List.getD_eq_getElem?_getD, List.getElem?_append_right (by omega), h2]; simp
      rw [e]
      exact ⟨by omega, Nat.lt_of_lt_of_le hbW hg.size, hp.of (hg.block b hbW (fun x => by have := hne b x.symm; omega))⟩

theorem new_cell_at (w : World) (x : Value) (T : TypeId) {s : Nat} (hs : w.heap.size = s) {j : Nat} {u : Value} (h : [x][j]? = some u) : (w.alloc (.cells #[x] T)).cell? ((⟨s, 0, none⟩ : Addr).add j) = some u := by
  subst hs
  exact new_cell w x T h
theorem info36 : (Try.prog.info? 31).map (fun i => (i.zero, i.size, i.bytes)) = some (some (.slice none 0 0), 1, 24) := by kernel_rfl
/-- What a function that makes a row of pairs hands back. -/
def RetPairs1 (rs : List (Int × Int)) (w : World) (e : Ending) (w' : World) : Prop := ∃ v, e = .returned v ∧ PairsAt w' w.heap.size v rs ∧ Below w.heap.size w w'
theorem pair_new (w : World) (x y : Int) (T : TypeId) : PairAt (w.alloc (.cells #[.int .i64 x, .int .i64 y] T)) w.heap.size (x, y) := by
  refine ⟨?_, ?_, ?_, ?_⟩ <;> go_simp
theorem take_snoc {rs : List (Int × Int)} {j : Nat} (h : j < rs.length) : rs.take (j + 1) = rs.take j ++ [rs.getD j (0, 0)] := by
  rw [List.take_add_one, List.getElem?_eq_getElem h, List.getD_eq_getElem?_getD, List.getElem?_eq_getElem h]; rfl

set_option maxRecDepth 100000 in
set_option maxHeartbeats 4000000 in
theorem pairsOf_any (rs : List (Int × Int)) (a : Option Addr) (cap : Nat) (w : World) (hl : rs.length ≤ 300) (h : RecsIn w a rs) :
    Calls Try.prog 36 #[.slice a rs.length cap] w (RetPairs1 rs w) := by
  obtain ⟨i0, hi, hi0, hi1, hi2⟩ := info_parts info36
  obtain ⟨K, hK⟩ : ∃ K, rs.length = K := ⟨_, rfl⟩
  have HX : Hid (∀ k, k < K → ∃ g, a = some ⟨g, 0, none⟩ ∧ g < w.heap.size ∧ w.cell? ⟨g, k * 2, none⟩ = some (.int .i64 (rs.getD k (0, 0)).1) ∧ w.cell? ⟨g, k * 2 + 1, none⟩ = some (.int .i64 (rs.getD k (0, 0)).2)) := Lib.hid (by rw [← hK]; exact h)
  have HT := Lib.hid (fun j (hj : j < K) => take_snoc (rs := rs) (j := j) (by omega))
  have HF : Hid (rs.take K = rs) := Lib.hid (by rw [← hK]; exact List.take_length)
  have HTL : Hid (∀ j, j ≤ K → (rs.take j).length = j) := Lib.hid (fun j hj => by rw [List.length_take]; omega)
  rw [hK] at hl ⊢
  have hK2 : (K : Int) ≤ 300 := by omega
  clear h hK hl
  go_enter Try.func36, Try.ntmps36
  go_wp2_with fail
  go_loopw [3, 8] (fun v i wr => ∃ j : Nat, j ≤ K ∧ i = .int .i64 j ∧ PairsAt wr w.heap.size v (rs.take j) ∧ Below w.heap.size w wr) (fun _ i _ => K - (RowKit.intOf i).toNat)
  case atStart => exact ⟨0, Nat.zero_le _, rfl, by simpa using pairsAt_nil w w.heap.size, Below.refl _ _⟩
  case round =>
    obtain ⟨j, hj, rfl, hpa, hbel⟩ := hrel
    have HB := Lib.hid hbel
    have hsz := hbel.size
    by_cases hlt : j < K
    · obtain ⟨g, rfl, hg, q0, q1⟩ := HX.out j hlt
      have p0 : wr.cell? ⟨g, j * 2, none⟩ = some (.int .i64 (rs.getD j (0, 0)).1) := (hbel.cell (p := ⟨g, _, none⟩) hg).trans q0
      have p1 : wr.cell? ⟨g, j * 2 + 1, none⟩ = some (.int .i64 (rs.getD j (0, 0)).2) := (hbel.cell (p := ⟨g, _, none⟩) hg).trans q1
      have hlt2 : (j : Int) < (K : Int) := by omega
      obtain ⟨bs, h1, h2, h3, h4⟩ := hpa
      rw [HTL.out j hj] at h1 h2
      have HTS := Lib.hid (HT.out j hlt)
      obtain ⟨r, hr⟩ : ∃ r, rs.getD j (0, 0) = r := ⟨_, rfl⟩
      rw [hr] at p0 p1 HTS
      obtain ⟨x, y⟩ := r
      dsimp only at p0 p1
      have H1 := Lib.hid h1
      have H234 := Lib.hid (And.intro h2 (And.intro h3 h4))
      have hj3 : j + 1 ≤ maxLen := by unfold maxLen; omega
      clear h1 h2 h3 h4 hr q0 q1 hbel
      go_wp2_with (at_builtin; refine wpList_append_own _ rfl _ _ 28 rfl w.heap.size 31 i0 (.slice none 0 0) 1 24 Try.underlying28 hi hi0 hi1 hi2 rfl (by decide) _ _ _ rfl (((H1.out.alloc _).alloc _).alloc _) ⟨wr.heap.size + 1 + 1, 0, none⟩ 1 1 [slP (wr.heap.size + 1)] rfl rfl (fun j u hu => new_cell_at _ _ _ (by simp) hu) (by simp [Value.oneCell', slP]) hj3 (by omega) (by simp; omega) ?_; intro v5 w5 hown5 hgrow5 _)
      have hb3 : Below wr.heap.size wr (((wr.alloc (.cells #[.int .i64 x, .int .i64 y] 59)).alloc (.cells #[.int .i64 x, .int .i64 y] 3)).alloc (.cells #[slP (wr.heap.size + 1)] 31)) := (((Below.refl _ wr).alloc (Nat.le_refl _) _).alloc (by simp) _).alloc (by simp; omega) _
      have hpn : PairAt (((wr.alloc (.cells #[.int .i64 x, .int .i64 y] 59)).alloc (.cells #[.int .i64 x, .int .i64 y] 3)).alloc (.cells #[slP (wr.heap.size + 1)] 31)) (wr.heap.size + 1) (x, y) := by
        have := pair_new (wr.alloc (.cells #[.int .i64 x, .int .i64 y] 59)) x y 3
        have e : (wr.alloc (.cells #[.int .i64 x, .int .i64 y] 59)).heap.size = wr.heap.size + 1 := by simp
        rw [e] at this
        exact this.of (((Below.refl (wr.heap.size + 2) _).alloc (by simp) _).block _ (by omega))
      have hpr := pairs_snoc (rs := rs.take j) (by rw [HTL.out j hj]; exact H1.out) (by rw [HTL.out j hj]; exact H234.out.1) H234.out.2.1 H234.out.2.2 hb3 hsz (by omega) (by simp) hpn (by rw [HTL.out j hj]; exact hown5) hgrow5
      rw [← HTS.out] at hpr
      exact ⟨⟨j + 1, hlt, by go_num, hpr, (HB.out.trans (hb3.mono hsz)).grown hgrow5 (by simp; omega) (fun k e => (World.ownsRow.lt H1.out k e).1)⟩, by simp [RowKit.intOf]; omega⟩
    · obtain rfl : j = K := by omega
      have hlt2 : ¬ ((j : Int) < (j : Int)) := by omega
      rw [HF.out] at hpa
      have HP := Lib.hid hpa
      clear hpa hbel
      go_wp2_with fail
      go_ret
      exact ⟨_, rfl, HP.out, HB.out⟩
end Go.Proofs.Ytponmblponfdaaa

namespace Go.Proofs.Ytponmblponfdaaa
open Go.RowKit
set_option linter.unusedVariables false

set_option maxRecDepth 100000 in
set_option maxHeartbeats 4000000 in
theorem reRecords_any (xs : List Int) (v : Value) (w : World) (hl : xs.length ≤ 300) (hm : ∀ j, j < xs.length → -1 ≤ atL xs j ∧ atL xs j ≤ 1000000000000) (h : IntsIn w v xs) :
    Calls Try.prog 39 #[v] w (RetPairs1 (recK (atL xs) xs.length) w) := by
  obtain ⟨i0, hi, hi0, hi1, hi2⟩ := info_parts info36
  obtain ⟨a, cap, rfl, hx⟩ := h.at'
  obtain ⟨f, hf⟩ : ∃ f, atL xs = f := ⟨_, rfl⟩
  obtain ⟨K, hK⟩ : ∃ K, xs.length = K := ⟨_, rfl⟩
  rw [hf, hK] at hm hx ⊢
  rw [hK] at hl
  have hK2 : (K : Int) ≤ 300 := by omega
  have HX := Lib.hid hx
  have HM := Lib.hid hm
  clear hx hm hl hf hK h
  go_enter Try.func39, Try.ntmps39
  go_wp2_with fail
  go_loopw [3, 4, 9] (fun v b i wr => ∃ j : Nat, j ≤ K ∧ i = .int .i64 j ∧ b = .int .i64 (bst (recK f j)) ∧ PairsAt wr w.heap.size v (recK f j) ∧ Below w.heap.size w wr) (fun _ _ i _ => K - (RowKit.intOf i).toNat)
  case atStart => exact ⟨0, Nat.zero_le _, rfl, rfl, pairsAt_nil w w.heap.size, Below.refl _ _⟩
  case round =>
    obtain ⟨j, hj, rfl, rfl, hpa, hbel⟩ := hrel
    have HB := Lib.hid hbel
    have hsz := hbel.size
    have HPA := Lib.hid hpa
    clear hpa
    by_cases hlt : j < K
    · obtain ⟨g, rfl, hg, q0⟩ := HX.out j hlt
      have q : wr.cell? ⟨g, j, none⟩ = some (.int .i64 (f j)) := (hbel.cell (p := ⟨g, j, none⟩) hg).trans q0
      have hlt2 : (j : Int) < (K : Int) := by omega
      have HNEW := Lib.hid (fun h => recK_new (a := f) (k := j) (fun m hm => (HM.out m (by omega)).1) h)
      have HOLD := Lib.hid (fun h => recK_old (a := f) (k := j) (fun m hm => (HM.out m (by omega)).1) h)
      have HSN := Lib.hid (fun h => (congrArg bst (HNEW.out h)).trans (bst_snoc _ _))
      have HSO := Lib.hid (fun h => congrArg bst (HOLD.out h))
      have hlen : (recK f j).length ≤ 300 := Nat.le_trans (recK_len f j) (by omega)
      obtain ⟨x, hx⟩ : ∃ x, f j = x := ⟨_, rfl⟩
      obtain ⟨bb, hbb⟩ : ∃ bb, bst (recK f j) = bb := ⟨_, rfl⟩
      rw [hx, hbb] at HNEW HSN
      rw [hx, hbb] at HOLD HSO
      rw [hx] at q
      rw [hbb]
      clear hx hbb q0 hbel
      by_cases hgt : bb < x
      · have HN := Lib.hid (HNEW.out hgt)
        have HS := Lib.hid (HSN.out hgt)
        obtain ⟨bs, h1, h2, h3, h4⟩ := HPA.out
        obtain ⟨n, hn⟩ : ∃ n, (recK f j).length = n := ⟨_, rfl⟩
        rw [hn] at h1 h2 hlen
        have HNL := Lib.hid hn
        have H1 := Lib.hid h1
        have H234 := Lib.hid (And.intro h2 (And.intro h3 h4))
        have hj3 : n + 1 ≤ maxLen := by unfold maxLen; omega
        clear h1 h2 h3 h4 hn HPA HNEW HOLD HSN HSO
        go_wp2_with (at_builtin; refine wpList_append_own _ rfl _ _ 28 rfl w.heap.size 31 i0 (.slice none 0 0) 1 24 Try.underlying28 hi hi0 hi1 hi2 rfl (by decide) _ _ _ rfl ((H1.out.alloc _).alloc _) ⟨wr.heap.size + 1, 0, none⟩ 1 1 [slP wr.heap.size] rfl rfl (fun j u hu => new_cell_at _ _ _ (by simp) hu) (by simp [Value.oneCell', slP]) hj3 (by omega) (by simp; omega) ?_; intro v5 w5 hown5 hgrow5 _)
        have hb3 : Below wr.heap.size wr ((wr.alloc (.cells #[.int .i64 ((j : Int) + 1), .int .i64 x] 3)).alloc (.cells #[slP wr.heap.size] 31)) := ((Below.refl _ wr).alloc (Nat.le_refl _) _).alloc (by simp) _
        have hpn : PairAt ((wr.alloc (.cells #[.int .i64 ((j : Int) + 1), .int .i64 x] 3)).alloc (.cells #[slP wr.heap.size] 31)) wr.heap.size ((j : Int) + 1, x) :=
          (pair_new wr ((j : Int) + 1) x 3).of (((Below.refl (wr.heap.size + 1) _).alloc (by simp) _).block _ (by omega))
        have hpr := pairs_snoc (rs := recK f j) (by rw [HNL.out]; exact H1.out) (by rw [HNL.out]; exact H234.out.1) H234.out.2.1 H234.out.2.2 hb3 hsz (Nat.le_refl _) (by simp; omega) hpn (by rw [HNL.out]; exact hown5) hgrow5
        exact ⟨⟨j + 1, hlt, by go_num, by rw [HS.out], by rw [HN.out]; exact hpr, (HB.out.trans (hb3.mono hsz)).grown hgrow5 (by simp; omega) (fun k e => (World.ownsRow.lt H1.out k e).1)⟩, by simp [RowKit.intOf]; omega⟩
      · have HN := Lib.hid (HOLD.out hgt)
        have HS := Lib.hid (HSO.out hgt)
        clear HNEW HOLD HSN HSO
        go_wp2_with fail
        exact ⟨⟨j + 1, hlt, by go_num, by rw [HS.out], by rw [HN.out]; exact HPA.out, HB.out⟩, by simp [RowKit.intOf]; omega⟩
    · obtain rfl : j = K := by omega
      have hlt2 : ¬ ((j : Int) < (j : Int)) := by omega
      clear hbel
      go_wp2_with fail
      go_ret
      exact ⟨_, rfl, HPA.out, HB.out⟩

theorem PairAt.row {w : World} {b : Nat} {r : Int × Int} (h : PairAt w b r) : IntRow w b [r.1, r.2] := by
  intro j hj
  match j, hj with
  | 0, _ => exact ⟨h.1, h.2.2.1⟩
  | 1, _ => exact ⟨h.2.1, h.2.2.2⟩
end Go.Proofs.Ytponmblponfdaaa

namespace Go.Proofs.Ytponmblponfdaaa
open Go.RowKit
set_option linter.unusedVariables false

theorem PairsAt.at {w : World} {B : Nat} {v : Value} {rs : List (Int × Int)} (h : PairsAt w B v rs) : ∃ a cap, v = .slice a rs.length cap ∧ ∀ k, k < rs.length → ∃ g b, a = some ⟨g, 0, none⟩ ∧ B ≤ g ∧ g < w.heap.size ∧ w.cell? ⟨g, k, none⟩ = some (slP b) ∧ B ≤ b ∧ b < w.heap.size ∧ PairAt w b (rs.getD k (0, 0)) := by
  obtain ⟨bs, h1, h2, h3, h4⟩ := h
  by_cases hn : 0 < rs.length
  · obtain ⟨g, cap, rfl, a1, a2, _, _, a3⟩ := row_one h1 hn
    refine ⟨_, cap, rfl, fun k hk => ?_⟩
    have hb : bs[k]? = some (bs[k]'(by omega)) := List.getElem?_eq_getElem _
    obtain ⟨b1, b2, b3⟩ := h4 k _ hb
    exact ⟨g, _, rfl, a1, a2, a3 k _ (by rw [List.getElem?_map, hb]; rfl), b1, b2, b3⟩
  · have e : rs.length = 0 := by omega
    rcases h1.2 with ⟨rfl, _⟩ | ⟨g, cap, cur, rfl, _⟩
    · exact ⟨none, 0, by rw [e], fun k hk => by omega⟩
    · exact ⟨_, cap, rfl, fun k hk => by omega⟩

theorem Touch.grown1 {b : Nat} {w w' : World} (h : Touch b (b + 1) w w') : w.grownBy w' (some b) := ⟨h.os, h.tape, h.output, h.size, fun k hk hne => h.block k hk (by have : k ≠ b := fun e => hne (by rw [e]); omega)⟩
/-- The numbers 1, 2, .. in pairs. -/
def markP (n : Nat) : List (Int × Int) := (List.range n).map fun (i : Nat) => (2 * (i : Int) + 1, 2 * (i : Int) + 2)
theorem markP_length (n : Nat) : (markP n).length = n := by simp [markP]
theorem markP_at {n k : Nat} (h : k < n) : (markP n).getD k (0, 0) = (2 * (k : Int) + 1, 2 * (k : Int) + 2) := by
  simp [markP, List.getD_eq_getElem?_getD, h]

end Go.Proofs.Ytponmblponfdaaa
