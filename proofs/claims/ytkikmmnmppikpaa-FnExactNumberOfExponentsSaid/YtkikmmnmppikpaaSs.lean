/-
  ROWS OF ROWS IN THE LAWS: 'szIntSS', 'toIntSS', 'eqIntSS'; a row of rows that the caller gave.
-/
import Derived.Test.YtkikmmnmppikpaaNeM
import Derived.Test.YtkikmmnmppikpaaMachL
import Derived.Test.YtkikmmnmppikpaaArgM
namespace Go.Proofs.Ytkikmmnmppikpaa
open Go.ChangeShapes Go.WideShapes Go.RowKit Go.Joins
set_option linter.unusedVariables false

/-- The caller's row of rows. -/
def ArgSS (w : World) (v : Value) (xss : List (List Int)) : Prop :=
  xss.length ≤ maxLen ∧ ∃ a cap, v = .slice a xss.length cap ∧ ∀ i, i < xss.length → ∃ b off u, a = some ⟨b, off, none⟩ ∧ b < w.heap.size ∧ w.cell? ⟨b, off + i, none⟩ = some u ∧ ArgI w u (xss.getD i []) ∧ (xss.getD i []).length ≤ maxLen
theorem ArgSS.kept {w w' : World} {v : Value} {xss : List (List Int)} (h : ArgSS w v xss) (hb : Below w.heap.size w w') : ArgSS w' v xss := by
  obtain ⟨h0, a, cap, rfl, hx⟩ := h
  refine ⟨h0, a, cap, rfl, fun i hi => ?_⟩
  obtain ⟨b, off, u, rfl, hg, hc, hr, hl⟩ := hx i hi
  exact ⟨b, off, u, rfl, Nat.lt_of_lt_of_le hg hb.size, (hb.cell (p := ⟨b, off + i, none⟩) hg).trans hc, hr.kept hb (Nat.le_refl _), hl⟩

set_option maxHeartbeats 2000000 in
theorem szIntSS_any (xss : List (List Int)) (v : Value) (w : World) (h : ArgSS w v xss) :
    Calls Try.prog 17 #[v, .int .i64 1048576] w fun e w' => ∃ r : Int, e = .returned (.int .i64 r) ∧ (r < 0 ∨ (0 ≤ r ∧ r ≤ 1048576 ∧ xss.length ≤ 1048576 ∧ ∀ i, i < xss.length → (xss.getD i []).length ≤ 1048576)) ∧ w = w' := by
  obtain ⟨h0, a, cap, rfl, hx⟩ := h
  obtain ⟨K, hK⟩ : ∃ K, xss.length = K := ⟨_, rfl⟩
  rw [hK] at hx h0 ⊢
  have HX := Lib.hid hx
  have hK0 : (K : Int) ≤ 9223372036854775807 := by unfold maxLen at h0; omega
  clear hx hK h0
  by_cases hk : 1048576 < K
  · have h1 : 1048576 - (K : Int) < 0 := by omega
    go_enter Try.func17, Try.ntmps17
    go_wp2_with fail
    go_ret
    exact ⟨_, rfl, .inl (by omega), rfl⟩
  have h1 : ¬ (1048576 - (K : Int) < 0) := by omega
  have hK1 : (K : Int) ≤ 1048576 := by omega
  go_enter Try.func17, Try.ntmps17
  go_wp2_with fail
  go_loop [1, 5] (fun l i => ∃ (j : Nat) (r : Int), j ≤ K ∧ i = .int .i64 j ∧ l = .int .i64 r ∧ 0 ≤ r ∧ r ≤ 1048576 ∧ ∀ i, i < j → (xss.getD i []).length ≤ 1048576) (fun _ i => K - (RowKit.intOf i).toNat)
  case atStart => exact ⟨0, 1048576 - (K : Int), Nat.zero_le _, rfl, rfl, by omega, by omega, fun i hi => by omega⟩
  case round =>
    obtain ⟨j, r, hj, rfl, rfl, r0, r1, hall⟩ := hrel
    have HALL := Lib.hid hall
    clear hall
    by_cases hlt : j < K
    · obtain ⟨b, off, u, rfl, hg, q, ⟨a2, c2, rfl, _⟩, hln⟩ := HX.out j hlt
      have hlt2 : (j : Int) < (K : Int) := by omega
      by_cases hr : ((xss.getD j []).length : Int) ≤ r
      · have HC := Lib.hid (fun W => szIntS_yes a2 (xss.getD j []).length c2 r W r0 r1 hr)
        have HN : Hid (∀ i, i < j + 1 → (xss.getD i []).length ≤ 1048576) := Lib.hid (fun i hi => by
          rcases Nat.lt_succ_iff_lt_or_eq.1 hi with h | rfl
          · exact HALL.out i h
          · omega)
        have hn : ¬ (r - ((xss.getD j []).length : Int) < 0) := by omega
        generalize (xss.getD j []).length = L at *
        go_wp2_with (go_at_call 45; refine (HC.out _).mono ?_; rintro e w1 ⟨rfl, rfl⟩)
        exact ⟨⟨j + 1, r - (L : Int), hlt, by go_num, rfl, by omega, by omega, HN.out⟩, by simp [RowKit.intOf]; omega⟩
      · have HC := Lib.hid (fun W => szIntS_no a2 (xss.getD j []).length c2 r W hln r0 r1 (by omega))
        generalize (xss.getD j []).length = L at *
        go_wp2_with (go_at_call 45; refine (HC.out _).mono ?_; rintro e w1 ⟨rfl, rfl⟩)
        go_ret
        exact ⟨_, rfl, .inl (by omega), rfl⟩
    · obtain rfl : j = K := by omega
      have hlt2 : ¬ ((j : Int) < (j : Int)) := by omega
      go_wp2_with fail
      go_ret
      exact ⟨_, rfl, .inr ⟨r0, r1, by omega, HALL.out⟩, rfl⟩

set_option maxRecDepth 100000 in
set_option maxHeartbeats 2000000 in
theorem eqSS_any (xss : List (List Int)) (v v' : Value) (w : World) (hls : xss.length ≤ 1048576) (hl : ∀ i, i < xss.length → (xss.getD i []).length ≤ 1048576) (h : SSIn w v xss) (h' : SSIn w v' xss) :
    Calls Try.prog 21 #[v, v'] w fun e w' => e = .returned (.bool true) ∧ Below w.heap.size w w' := by
  obtain ⟨a, cap, rfl, hx⟩ := h
  obtain ⟨a', cap', rfl, hx'⟩ := h'
  obtain ⟨K, hK⟩ : ∃ K, xss.length = K := ⟨_, rfl⟩
  rw [hK] at hx hx' hl hls ⊢
  have hK1 : (K : Int) ≤ 1048576 := by omega
  have HX := Lib.hid hx
  have HX' := Lib.hid hx'
  have HLN := Lib.hid hl
  clear hx hx' hK hl hls
  go_enter Try.func21, Try.ntmps21
  go_wp2_with fail
  go_loopw [5] (fun i wr => ∃ k : Nat, k ≤ K ∧ i = .int .i64 k ∧ Below w.heap.size w wr) (fun i _ => K - (RowKit.intOf i).toNat)
  case atStart => exact ⟨0, Nat.zero_le _, rfl, Below.refl _ _⟩
  case round =>
    obtain ⟨k, hk, rfl, hb⟩ := hrel
    have HB := Lib.hid hb
    by_cases hlt : k < K
    · obtain ⟨g, u, rfl, hg, q0, hr⟩ := HX.out k hlt
      obtain ⟨g', u', rfl, hg', q0', hr'⟩ := HX'.out k hlt
      have q := (hb.cell (p := ⟨g, k, none⟩) hg).trans q0
      have q' := (hb.cell (p := ⟨g', k, none⟩) hg').trans q0'
      have hl1 := HLN.out k hlt
      have HQ := Lib.hid (fun w2 (hb2 : Below w.heap.size w w2) => (eqIntS_any _ u u' w2 (by omega) (hr.kept hb2) (hr'.kept hb2)).mono (fun e w3 ⟨h1, h3⟩ => (⟨h1, hb2.trans (h3.mono hb2.size)⟩ : e = Ending.returned (.bool true) ∧ Below w.heap.size w w3)))
      obtain ⟨b1, d1, rfl⟩ := hr.len
      obtain ⟨b2, d2, rfl⟩ := hr'.len
      have hk0 : (0 : Int) ≤ (k : Int) := by omega
      have hk1 : (k : Int) < (K : Int) := by omega
      generalize (xss.getD k []).length = L at *
      clear hb q0 q0' hr hr' hl1
      go_wp2_with fail
      go_region_with (go_at_call 52; refine (HQ.out _ (by first | exact HB.out | exact HB.out.drew | exact HB.out.drew.drew)).mono ?_; rintro e w2 ⟨rfl, hb2⟩)
      all_goals
        try go_wp2
        exact ⟨⟨k + 1, hlt, by go_num, by first | exact hb2 | exact hb2.drew⟩, by simp [RowKit.intOf]; omega⟩
    · obtain rfl : k = K := by omega
      clear hb
      go_wp2_with fail
      go_ret
      exact ⟨rfl, HB.out⟩

set_option maxRecDepth 100000 in
set_option maxHeartbeats 4000000 in
theorem toIntSS_any (xss : List (List Int)) (v : Value) (w : World) (hls : xss.length ≤ 1048576) (hl : ∀ i, i < xss.length → (xss.getD i []).length ≤ 1048576) (h : ArgSS w v xss) :
    Calls Try.prog 19 #[v] w fun e w' => ∃ v', e = .returned v' ∧ SSIn w' v' xss ∧ Below w.heap.size w w' := by
  obtain ⟨_, a, cap, rfl, hx⟩ := h
  obtain ⟨K, hK⟩ : ∃ K, xss.length = K := ⟨_, rfl⟩
  have HK := Lib.hid hK
  rw [hK] at hx hl hls ⊢
  have HX := Lib.hid hx
  have HLN := Lib.hid hl
  have hK1 : (K : Int) ≤ 1048576 := by omega
  obtain ⟨i0, hi, hi0, hi1, hi2⟩ := info_parts info36
  clear hx hl hK
  go_enter Try.func19, Try.ntmps19
  go_wp2_with (at_make; refine wpList_make_full _ rfl _ _ 41 rfl w.heap.size 24 i0 (.slice none 0 0) 1 Try.underlying41 hi hi0 hi1 .i64 .i64 K K K rfl rfl rfl rfl ?c1 ?c2 ?c3 ?_; rotate_right; intro w3 hown3 hgrow3)
  case c1 => rw [hi2]; omega
  case c2 => unfold maxLen; omega
  case c3 => simp
  have HB3 : Hid (Below w.heap.size w w3) := Lib.hid ((Below.refl _ w).grown hgrow3 (Nat.le_refl _) (fun k e => by simp at e))
  have HO3 := Lib.hid hown3
  clear hown3 hgrow3
  go_loopw [4] (fun i wr => ∃ (j : Nat) (vs : List Value), j ≤ K ∧ i = .int .i64 j ∧ wr.ownsRow w.heap.size 24 1 (.slice (some ⟨w.heap.size, 0, none⟩) K K) K vs ∧ (∀ i, i < j → ∃ p c, vs[i]? = some (.slice p (xss.getD i []).length c) ∧ RowIn wr (w.heap.size + 1) wr.heap.size p (xss.getD i [])) ∧ Below w.heap.size w wr) (fun i _ => K - (RowKit.intOf i).toNat)
  case atStart => exact ⟨0, _, Nat.zero_le _, rfl, HO3.out, fun i hi => by omega, HB3.out⟩
  case round =>
    obtain ⟨j, vs, hj, rfl, hown, hrows, hb⟩ := hrel
    have HO := Lib.hid hown
    have HR := Lib.hid hrows
    have HB := Lib.hid hb
    have hvl : vs.length = K := by have := hown.1; omega
    have HVL := Lib.hid hvl
    clear hrows
    by_cases hlt : j < K
    · obtain ⟨b, off, u, rfl, hg, q0, harg, _⟩ := HX.out j hlt
      have q := (hb.cell (p := ⟨b, off + j, none⟩) hg).trans q0
      have hgw := Nat.lt_of_lt_of_le hg hb.size
      have hln := HLN.out j hlt
      have HC := Lib.hid (toIntS_any (xss.getD j []) u wr hln (harg.kept hb (Nat.le_refl _)))
      have hlt2 : (j : Int) < (K : Int) := by omega
      have hj0 : (0 : Int) ≤ (j : Int) := by omega
      obtain ⟨a2, c2, rfl, _⟩ := harg
      have hN : w.heap.size < wr.heap.size := (World.ownsRow.lt hown w.heap.size rfl).2
      clear hown hb q0 HO3 HB3 hvl
      go_wp2_with fail
      refine HC.out.mono ?_
      rintro e w2 ⟨v2, rfl, hat, hb2⟩
      have hown2 := ownsRow_kept HO.out hb2
      obtain ⟨p2, d2, rfl, hrow⟩ := hat.rowIn
      have HRW := Lib.hid hrow
      have HO2 := Lib.hid hown2
      have qc : ∃ uu, w2.cell? ⟨w.heap.size, j, none⟩ = some uu := ⟨vs[j]'(by have := HVL.out; omega), by
        rw [World.ownsRow.cellAt hown2 j (by omega)]; exact List.getElem?_eq_getElem _⟩
      obtain ⟨uu, qc⟩ := qc
      have qf : w2.frozen? ⟨w.heap.size, j, none⟩ = false := World.ownsRow.frozenAt hown2 j
      have HB2 := Lib.hid hb2
      clear hat hown2 hrow hb2
      go_wp2_with fail
      have hst := World.ownsRow.stored HO2.out j (.slice p2 (xss.getD j []).length d2)
      refine ⟨⟨j + 1, _, hlt, by go_num, hst.1, fun i hi => ?_, (HB.out.trans (HB2.out.mono HB.out.size)).setCell (p := ⟨w.heap.size, j, none⟩) (Nat.le_refl _) _⟩, by simp [RowKit.intOf]; omega⟩
      have hso : ∀ g, w.heap.size + 1 ≤ g → (w2.setCell ⟨w.heap.size, j, none⟩ (.slice p2 (xss.getD j []).length d2)).heap[g]? = w2.heap[g]? := fun g hg => Below.heap_setCell _ _ _ _ (by simp; omega)
      by_cases hij : i = j
      · subst hij
        refine ⟨p2, d2, by rw [List.getElem?_set]; simp [HVL.out, hlt], ?_⟩
        exact (HRW.out.wide (lo' := w.heap.size + 1) (hi' := (w2.setCell ⟨w.heap.size, i, none⟩ (.slice p2 (xss.getD i []).length d2)).heap.size) (by omega) (by simp)).of (fun g hg _ => hso g hg)
      · obtain ⟨p, c, e1, r1⟩ := HR.out i (by omega)
        refine ⟨p, c, by rw [List.getElem?_set, if_neg (fun h => hij h.symm)]; exact e1, ?_⟩
        have r2 := r1.of (w' := w2) (fun g _ hg => HB2.out.block g hg)
        exact (r2.wide (lo' := w.heap.size + 1) (hi' := (w2.setCell ⟨w.heap.size, j, none⟩ (.slice p2 (xss.getD j []).length d2)).heap.size) (Nat.le_refl _) (by have := HB2.out.size; simp; omega)).of (fun g hg _ => hso g hg)
    · obtain rfl : j = K := by omega
      have hlt2 : ¬ ((j : Int) < (j : Int)) := by omega
      clear hown hb hvl
      go_wp2_with fail
      go_ret
      refine ⟨.slice (some ⟨w.heap.size, 0, none⟩) j j, rfl, ⟨some ⟨w.heap.size, 0, none⟩, j, by rw [HK.out], fun i hi => ?_⟩, HB.out⟩
      rw [HK.out] at hi
      obtain ⟨p, c, e1, r1⟩ := HR.out i hi
      refine ⟨w.heap.size, _, rfl, (World.ownsRow.lt HO.out w.heap.size rfl).2, by rw [World.ownsRow.cellAt HO.out i (by omega)]; exact e1, r1.isIn (Nat.le_refl _)⟩

theorem cellsIS : Try.prog.cellsOf 24 = 1 := by kernel_rfl
set_option maxRecDepth 100000 in
theorem argSS_of_trod {H : Type} {enc : TypeId × Value → H} {W : World} {v : Value} {d : DataW H} {p : List MemPlace} (hv : ∃ a len cap, v = .slice a len cap)
    (h : DataW.Trod enc Try.prog W 0 (fun _ => true) true 41 v d p) : ∃ xss, ArgSS W v xss := by
  obtain ⟨a0, len, cap, rfl⟩ := hv
  obtain ⟨fuel, hf⟩ := h
  rcases DataW.trod_slice Try.underlying41 hf with ⟨hcs, hx⟩ | ⟨a, len', cap', elems, rest, n, _, hcs, _, _, hl, hm, hlen, hel, _, _⟩
  · simp [Value.cells] at hcs
    obtain ⟨rfl, rfl, rfl⟩ := hcs
    exact ⟨[], by simp, none, 0, rfl, fun i hi => by simp at hi⟩
  · simp [Value.cells] at hcs
    obtain ⟨rfl, rfl, rfl⟩ := hcs
    have key : ∀ i, i < len → ∃ u xs, W.cell? (a.add i) = some u ∧ ArgI W u xs ∧ xs.length ≤ maxLen := by
      intro i hi
      have e := hel i hi
      rw [cellsIS, Nat.mul_one] at e
      rw [List.getElem?_eq_getElem (show i < elems.length by omega)] at e
      obtain ⟨cs, hcs, ht⟩ := Option.bind_eq_some_iff.1 e
      have hcs2 : ∃ u, W.cell? (a.add i) = some u ∧ cs = [u] := by
        generalize a.add i = x at hcs ⊢
        unfold World.cells? at hcs
        rw [if_pos (Nat.zero_le _)] at hcs
        have e0 : x.add 0 = x := by simp [Addr.add]
        cases hu : W.cell? x with
        | none => simp [hu, List.range_succ, e0] at hcs
        | some u => exact ⟨u, rfl, by simpa [hu, List.range_succ, e0] using hcs.symm⟩
      obtain ⟨u, hu, rfl⟩ := hcs2
      obtain ⟨xs, h1, h2⟩ := argI_of_cells ht
      exact ⟨u, xs, hu, h1, h2⟩
    have key2 : ∀ i : Nat, ∃ xs : List Int, i < len → ∃ u, W.cell? (a.add i) = some u ∧ ArgI W u xs ∧ xs.length ≤ maxLen := by
      intro i
      by_cases hi : i < len
      · obtain ⟨u, xs, h⟩ := key i hi
        exact ⟨xs, fun _ => ⟨u, h⟩⟩
      · exact ⟨[], fun h => (hi h).elim⟩
    have hL : ((List.range len).map fun i => Classical.choose (key2 i)).length = len := by simp
    refine ⟨(List.range len).map fun i => Classical.choose (key2 i), by omega, some a, cap, by rw [hL], fun i hi => ?_⟩
    rw [hL] at hi
    have hg : ((List.range len).map fun i => Classical.choose (key2 i)).getD i [] = Classical.choose (key2 i) := by simp [List.getD_eq_getElem?_getD, hi]
    rw [hg]
    obtain ⟨u, hu, h1, h2⟩ := Classical.choose_spec (key2 i) hi
    obtain ⟨u0, hu0, _⟩ := Classical.choose_spec (key2 0) (by omega)
    obtain ⟨b, off, spot⟩ := a
    have hspot : spot = none := by simpa [Addr.add] using World.cell?_spot hu0
    subst hspot
    refine ⟨b, off, u, rfl, ?_, ?_, h1, h2⟩
    · have := cell_heap hu
      rwa [add_plain] at this
    · rwa [add_plain] at hu
set_option maxRecDepth 100000 in
/-- Behind the call the row reads as it read. -/
theorem argBackSS {H : Type} {enc : TypeId × Value → H} {W W' : World} {v : Value} {d : DataW H} {p : List MemPlace} (hl : laidOutB Try.prog = true) (h : DataW.Trod enc Try.prog W 0 (fun _ => true) true 41 v d p) (hb : Below W.heap.size W W') :
    DataW.Trod enc Try.prog W' 0 (fun b => decide (b < W.heap.size)) true 41 v d p := by
  refine Below.trod hl (by kernel_rfl) (of_decide_eq_true (by kernel_rfl)) h hb ?_
  obtain ⟨fuel, hf⟩ := h
  exact DataW.trod_lt _ _ _ _ hf
end Go.Proofs.Ytkikmmnmppikpaa
