/-
  'keeper' of the program: a closure that keeps the records given to it that have more than each before.
-/
import Derived.Test.YtponmblponfdaaaOwn
import Derived.Test.YtponmblponfdaaaWalkPath
import Derived.Test.YtponmblponfdaaaRecM
import Derived.RegionTactic
import Derived.LoopN
import Derived.WalkSmall
namespace Go.Proofs.Ytponmblponfdaaa
open Go.RowKit
set_option linter.unusedVariables false

/-- Records as cells, one behind the other. -/
def recCells (rs : List (Int × Int)) : List Value := rs.flatMap fun r => [.int .i64 r.1, .int .i64 r.2]
theorem recCells_length (rs : List (Int × Int)) : (recCells rs).length = rs.length * 2 := by
  induction rs with
  | nil => rfl
  | cons r rs ih => simp [recCells] at ih ⊢; omega
theorem recCells_snoc (rs : List (Int × Int)) (r : Int × Int) : recCells (rs ++ [r]) = recCells rs ++ [.int .i64 r.1, .int .i64 r.2] := by simp [recCells]
theorem recCells_at : ∀ (rs : List (Int × Int)) (k : Nat), k < rs.length → (recCells rs)[2 * k]? = some (.int .i64 (rs.getD k (0, 0)).1) ∧ (recCells rs)[2 * k + 1]? = some (.int .i64 (rs.getD k (0, 0)).2)
  | [], k, h => by simp at h
  | r :: rs, 0, h => by simp [recCells]
  | r :: rs, k + 1, h => by
    have ih := recCells_at rs k (by simpa using h)
    have e : recCells (r :: rs) = [.int .i64 r.1, .int .i64 r.2] ++ recCells rs := by simp [recCells]
    rw [e, List.getElem?_append_right (by simp; omega), List.getElem?_append_right (by simp; omega)]
    simpa [show 2 * (k + 1) - 2 = 2 * k by omega, show 2 * (k + 1) + 1 - 2 = 2 * k + 1 by omega] using ih

/-- A keeper whose variables lie at B (what is kept) and B + 1 (the last one). -/
structure KeepAt (w : World) (B : Nat) (v : Value) (rs : List (Int × Int)) : Prop where
  row : w.ownsRow (B + 2) 59 2 v rs.length (recCells rs)
  kc : w.cell? ⟨B, 0, none⟩ = some v
  kf : w.frozen? ⟨B, 0, none⟩ = false
  b0 : w.cell? ⟨B + 1, 0, none⟩ = some (.int .i64 (lastR rs).1)
  b1 : w.cell? ⟨B + 1, 1, none⟩ = some (.int .i64 (lastR rs).2)
  f0 : w.frozen? ⟨B + 1, 0, none⟩ = false
  f1 : w.frozen? ⟨B + 1, 1, none⟩ = false
  sz : B + 2 ≤ w.heap.size
theorem KeepAt.below {w w' : World} {B : Nat} {v : Value} {rs : List (Int × Int)} (h : KeepAt w B v rs) (hb : Below w.heap.size w w') : KeepAt w' B v rs := by
  have h0 := h.sz
  exact ⟨ownsRow_kept h.row hb, (hb.cell (p := ⟨B, 0, none⟩) (by dsimp only; omega)).trans h.kc, (hb.frozen (p := ⟨B, 0, none⟩) (by dsimp only; omega)).trans h.kf,
    (hb.cell (p := ⟨B + 1, 0, none⟩) (by dsimp only; omega)).trans h.b0, (hb.cell (p := ⟨B + 1, 1, none⟩) (by dsimp only; omega)).trans h.b1,
    (hb.frozen (p := ⟨B + 1, 0, none⟩) (by dsimp only; omega)).trans h.f0, (hb.frozen (p := ⟨B + 1, 1, none⟩) (by dsimp only; omega)).trans h.f1, Nat.le_trans h0 hb.size⟩

set_option maxHeartbeats 1000000 in
theorem keeper_any (w : World) :
    Calls Try.prog 47 #[] w fun e w' => e = .returned (.func (.func 65) #[] #[.pointer (some ⟨w.heap.size + 1, 0, none⟩), .pointer (some ⟨w.heap.size, 0, none⟩)]) ∧
      w' = (w.alloc (.cells #[.slice none 0 0] 46)).alloc (.cells #[.int .i64 0, .int .i64 0] 59) := by
  go_enter Try.func47, Try.ntmps47
  have hmf : ∀ (fn : Fn) (first cap : Array Value) (w : World), (Instr.makeFunc fn first cap).run Try.prog w = .ok (.func fn first cap) w := fun _ _ _ _ => rfl
  go_wp2
  go_ret
  exact ⟨rfl, rfl⟩
theorem keepAt_new (w : World) : KeepAt ((w.alloc (.cells #[.slice none 0 0] 46)).alloc (.cells #[.int .i64 0, .int .i64 0] 59)) w.heap.size (.slice none 0 0) [] := by
  refine ⟨World.ownsRow_nil _ _ _ _, ?_, ?_, ?_, ?_, ?_, ?_, by simp⟩ <;> (go_simp; try rfl)

theorem info62 : (Try.prog.info? 59).map (fun i => (i.zero, i.size, i.bytes)) = some (some (.agg #[.int .i64 0, .int .i64 0]), 2, 16) := by kernel_rfl


/-- What '==' says of two records. -/
theorem eqRec (a b c d : Int) (w : World) : (Op.equalIn 10000 59 (.agg #[.int .i64 a, .int .i64 b]) (.agg #[.int .i64 c, .int .i64 d])).run Try.prog w = .ok (a == c && b == d) w := by
  have u3 := Try.underlying3
  have a3 := Try.isAgg3
  have z3 := Try.sizeOf3
  rw [show (10000 : Nat) = 9999 + 1 from rfl, Op.equalIn]
  simp only [Sem.run_bind, run_underlying Try.underlying59, Result.andThen_ok]
  simp only [Std.Legacy.Range.forIn_eq_forIn_range', Std.Legacy.Range.size, Nat.sub_zero, Nat.add_sub_cancel, Nat.div_one, List.range'_succ, List.range'_zero, List.forIn_cons, List.forIn_nil]
  go_simp
  by_cases h1 : a = c <;> by_cases h2 : b = d <;> simp [h1, h2]

theorem two_cells (w : World) (x y : Value) (T : TypeId) {j : Nat} {u : Value} (h : [x, y][j]? = some u) : (w.alloc (.cells #[x, y] T)).cell? ((⟨w.heap.size, 0, none⟩ : Addr).add j) = some u := by
  cases j with
  | zero => simp at h; subst h; simp [Addr.add]
  | succ j => cases j with
    | zero => simp at h; subst h; simp [Addr.add]
    | succ j => simp at h

/-- A row of at least one record: where it lies. -/
theorem rec_row {w : World} {B n : Nat} {v : Value} {xs : List Value} (h : w.ownsRow B 59 2 v n xs) (hn : 0 < n) : ∃ g cap, v = .slice (some ⟨g, 0, none⟩) n cap ∧ B ≤ g ∧ g < w.heap.size ∧ n ≤ cap ∧ cap ≤ maxLen ∧ ∀ j, j < n * 2 → w.cell? ⟨g, j, none⟩ = xs[j]? := by
  rcases h.2 with ⟨_, h2⟩ | ⟨g, cap, cur, rfl, h3, h4, h5, h6, h7⟩
  · omega
  · exact ⟨g, cap, rfl, h3, (Array.getElem?_eq_some_iff.1 h4).1, h5, h6, fun j hj => World.ownsRow.cellAt h j hj⟩

/-- The world in which a new record is appended. -/
def keepW (w : World) (B : Nat) (x y : Int) : World := (((w.setCell ⟨B + 1, 0, none⟩ (.int .i64 x)).setCell ⟨B + 1, 1, none⟩ (.int .i64 y)).alloc (.cells #[.int .i64 x, .int .i64 y] 59)).alloc (.cells #[.int .i64 x, .int .i64 y] 59)
structure KeepW (w W : World) (B : Nat) (v : Value) (rs : List (Int × Int)) (x y : Int) : Prop where
  row : W.ownsRow (B + 2) 59 2 v rs.length (recCells rs)
  news : ∀ j u, [Value.int .i64 x, Value.int .i64 y][j]? = some u → W.cell? ((⟨w.heap.size + 1, 0, none⟩ : Addr).add j) = some u
  bel : Below B w W
  b0 : W.cell? ⟨B + 1, 0, none⟩ = some (.int .i64 x)
  b1 : W.cell? ⟨B + 1, 1, none⟩ = some (.int .i64 y)
  f0 : W.frozen? ⟨B + 1, 0, none⟩ = false
  f1 : W.frozen? ⟨B + 1, 1, none⟩ = false
  kc : W.cell? ⟨B, 0, none⟩ = some v
  kf : W.frozen? ⟨B, 0, none⟩ = false
  sz : B + 2 ≤ W.heap.size
theorem keepW_any {w : World} {B : Nat} {v : Value} {rs : List (Int × Int)} (hk : KeepAt w B v rs) (x y : Int) : KeepW w (keepW w B x y) B v rs x y := by
  obtain ⟨row, kc, kf, b0, b1, f0, f1, sz⟩ := hk
  have ht : Touch B (B + 2) w (keepW w B x y) := (((Touch.refl B (B + 2) w).setCell (p := ⟨B + 1, 0, none⟩) (by dsimp only; omega) (by dsimp only; omega) _).setCell (p := ⟨B + 1, 1, none⟩) (by dsimp only; omega) (by dsimp only; omega) _).alloc _ |>.alloc _
  have hB0 : B < w.heap.size := by omega
  have hB1 : B + 1 < w.heap.size := by omega
  have hs : (((w.setCell ⟨B + 1, 0, none⟩ (.int .i64 x)).setCell ⟨B + 1, 1, none⟩ (.int .i64 y)).alloc (.cells #[.int .i64 x, .int .i64 y] 59)).heap.size = w.heap.size + 1 := by simp
  have hb2 : Below w.heap.size ((w.setCell ⟨B + 1, 0, none⟩ (.int .i64 x)).setCell ⟨B + 1, 1, none⟩ (.int .i64 y)) (keepW w B x y) := ((Below.refl _ _).alloc (by simp) _).alloc (by simp) _
  refine ⟨ownsRow_touch row ht (Nat.le_refl _), ?_, ht.below (Nat.le_refl _) (by omega), ?_, ?_, ?_, ?_, ?_, ?_, ?_⟩
  · intro j u hu
    have := two_cells (((w.setCell ⟨B + 1, 0, none⟩ (.int .i64 x)).setCell ⟨B + 1, 1, none⟩ (.int .i64 y)).alloc (.cells #[.int .i64 x, .int .i64 y] 59)) (.int .i64 x) (.int .i64 y) 59 hu
    rw [hs] at this
    exact this
  · refine (hb2.cell (p := ⟨B + 1, 0, none⟩) hB1).trans ?_
    simp [go_sem, b0]
  · refine (hb2.cell (p := ⟨B + 1, 1, none⟩) hB1).trans ?_
    simp [go_sem, b1]
  · refine (hb2.frozen (p := ⟨B + 1, 0, none⟩) hB1).trans ?_
    simp [go_sem, f0]
  · refine (hb2.frozen (p := ⟨B + 1, 1, none⟩) hB1).trans ?_
    simp [go_sem, f1]
  · refine (hb2.cell (p := ⟨B, 0, none⟩) hB0).trans ?_
    simp [go_sem, kc]
  · refine (hb2.frozen (p := ⟨B, 0, none⟩) hB0).trans ?_
    simp [go_sem, kf]
  · have := ht.size
    omega
/-- Behind the append. -/
theorem keepW_grown {w W w5 : World} {B : Nat} {v v5 : Value} {rs : List (Int × Int)} {x y : Int} (h : KeepW w W B v rs x y) (hown : w5.ownsRow (B + 2) 59 2 v5 (rs.length + 1) (recCells rs ++ [.int .i64 x, .int .i64 y])) (hgr : W.grownBy w5 v.ownBlock) :
    w5.cell? ⟨B, 0, none⟩ = some v ∧ w5.frozen? ⟨B, 0, none⟩ = false ∧ KeepAt (w5.setCell ⟨B, 0, none⟩ v5) B v5 (rs ++ [(x, y)]) ∧ Below B w (w5.setCell ⟨B, 0, none⟩ v5) := by
  have hsz := h.sz
  have hne : ∀ k, k < B + 2 → some k ≠ v.ownBlock := fun k hk e => by have := World.ownsRow.lt h.row k e.symm; omega
  have q0 := hgr.block B (by omega) (hne B (by omega))
  have q1 := hgr.block (B + 1) (by omega) (hne (B + 1) (by omega))
  have hbel : Below B w w5 := h.bel.grown hgr (by omega) (fun k e => by have := World.ownsRow.lt h.row k e; omega)
  have hz := hgr.size
  have hc := (World.cell?_of_block (a := ⟨B, 0, none⟩) q0).trans h.kc
  have ht : Touch B (B + 2) w5 (w5.setCell ⟨B, 0, none⟩ v5) := (Touch.refl B (B + 2) w5).setCell (p := ⟨B, 0, none⟩) (Nat.le_refl _) (by dsimp only; omega) v5
  refine ⟨hc, (World.frozen?_of_block (a := ⟨B, 0, none⟩) q0).trans h.kf, ⟨?_, ?_, ?_, ?_, ?_, ?_, ?_, ?_⟩, hbel.setCell (p := ⟨B, 0, none⟩) (Nat.le_refl _) _⟩
  · rw [List.length_append, recCells_snoc]
    exact ownsRow_touch hown ht (Nat.le_refl _)
  · exact World.cell?_setCell_same' _ _ _ (by rw [hc]; rfl)
  · rw [World.frozen?_setCell]
    exact (World.frozen?_of_block (a := ⟨B, 0, none⟩) q0).trans h.kf
  · rw [lastR_snoc]
    exact (World.cell?_setCell_other _ _ _ _ (by simp)).trans ((World.cell?_of_block (a := ⟨B + 1, 0, none⟩) q1).trans h.b0)
  · rw [lastR_snoc]
    exact (World.cell?_setCell_other _ _ _ _ (by simp)).trans ((World.cell?_of_block (a := ⟨B + 1, 1, none⟩) q1).trans h.b1)
  · rw [World.frozen?_setCell]
    exact (World.frozen?_of_block (a := ⟨B + 1, 0, none⟩) q1).trans h.f0
  · rw [World.frozen?_setCell]
    exact (World.frozen?_of_block (a := ⟨B + 1, 1, none⟩) q1).trans h.f1
  · simp
    omega

set_option maxRecDepth 100000 in
set_option maxHeartbeats 4000000 in
theorem keep_one (B g c : Nat) (v : Value) (rs : List (Int × Int)) (r : Int × Int) (w : World) (hk : KeepAt w B v rs) (hr : RecOk rs) (h1 : 1 ≤ r.1) (hl : rs.length ≤ 1000)
    (g0 : w.cell? ⟨g, 0, none⟩ = some (.int .i64 r.1)) (g1 : w.cell? ⟨g, 1, none⟩ = some (.int .i64 r.2)) (hg : g < w.heap.size) :
    Calls Try.prog 65 #[.slice (some ⟨g, 0, none⟩) 1 c, .pointer (some ⟨B + 1, 0, none⟩), .pointer (some ⟨B, 0, none⟩)] w fun e w' =>
      (∃ v0, e = .returned v0) ∧ Below B w w' ∧ ∃ v', KeepAt w' B v' (keep rs r) := by
  obtain ⟨i0, hi, hi0, hi1, hi2⟩ := info_parts info62
  obtain ⟨x, y⟩ := r
  dsimp only at h1 g0 g1
  have HW := Lib.hid (keepW_any hk x y)
  have HKA := Lib.hid hk
  obtain ⟨row, kc, kf, b0, b1, f0, f1, sz⟩ := hk
  have HR := Lib.hid hr
  obtain ⟨a, ha⟩ : ∃ a, (lastR rs).1 = a := ⟨_, rfl⟩
  obtain ⟨b, hb⟩ : ∃ b, (lastR rs).2 = b := ⟨_, rfl⟩
  rw [ha] at b0
  rw [hb] at b1
  have HA := Lib.hid ha
  have HBB := Lib.hid hb
  have HROW := Lib.hid row
  have HL : Hid (rs.length + 1 ≤ maxLen ∧ (rs.length + 1) * 16 ≤ 140737488355328) := Lib.hid ⟨by unfold maxLen; omega, by omega⟩
  clear hr ha hb row hl
  by_cases h0 : lastR rs = (0, 0)
  · obtain rfl : a = 0 := by rw [← HA.out, h0]
    obtain rfl : b = 0 := by rw [← HBB.out, h0]
    have HK := Lib.hid (keep_new (rs := rs) (r := (x, y)) (.inl h0))
    have hB0 : B < w.heap.size := by omega
    have hB1 : B + 1 < w.heap.size := by omega
    have hB2 : ¬ (w.heap.size = B + 1) := by omega
    have hB3 : ¬ (w.heap.size = B) := by omega
    have hB4 : ¬ (B + 1 = w.heap.size) := by omega
    have hB5 : ¬ (B = w.heap.size) := by omega
    have heq := eqRec
    clear h0
    go_enter Try.func65, Try.ntmps65
    go_wp2_with fail
    refine wp_loop_rounds 2 ?_
    rw [rounds_succ]
    go_wp2_with (at_builtin; refine wpList_append_own _ rfl _ _ 46 rfl (B + 2) 59 i0 (.agg #[.int .i64 0, .int .i64 0]) 2 16 Try.underlying46 hi hi0 hi1 hi2 rfl (by decide) _ _ _ rfl HW.out.row ⟨w.heap.size + 1, 0, none⟩ 1 1 [.int .i64 x, .int .i64 y] rfl rfl HW.out.news (by simp [Value.oneCell']) HL.out.1 HL.out.2 (by simp; omega) ?_; intro v5 w5 hown5 hgrow5 _; obtain ⟨e1, e2, e3, e4⟩ := keepW_grown HW.out hown5 hgrow5; obtain ⟨g5, cap5, rfl, r1, r2, r3, r4, _⟩ := rec_row hown5 (Nat.succ_pos _); have HE := Lib.hid (And.intro e3 e4); have r5 : (rs.length : Int) + 1 ≤ (cap5 : Int) := (by omega); have r6 : (cap5 : Int) ≤ 9223372036854775807 := (by unfold maxLen at r4; omega); clear hown5 hgrow5 e3 e4 r4)
    rw [rounds_succ]
    go_wp2_with fail
    go_ret
    exact ⟨⟨_, rfl⟩, HE.out.2, _, by rw [HK.out]; exact HE.out.1⟩
  · have ha1 : 1 ≤ a := by
      rw [← HA.out]
      exact (HR.out.2 _ (lastR_mem (fun e => h0 (HR.out.1.2 e)))).1
    have ha0 : (a == 0) = false := by simp; omega
    have hne : ¬ (a = 0) := by omega
    have hB0 : B < w.heap.size := by omega
    have hB1 : B + 1 < w.heap.size := by omega
    have hB2 : ¬ (w.heap.size = B + 1) := by omega
    have hB3 : ¬ (w.heap.size = B) := by omega
    have hB4 : ¬ (B + 1 = w.heap.size) := by omega
    have hB5 : ¬ (B = w.heap.size) := by omega
    have heq := eqRec
    by_cases hlt : b < y
    · have HK := Lib.hid (keep_new (rs := rs) (r := (x, y)) (.inr (by rw [HBB.out]; exact hlt)))
      clear h0
      go_enter Try.func65, Try.ntmps65
      go_wp2_with fail
      refine wp_loop_rounds 2 ?_
      rw [rounds_succ]
      go_wp2_with (at_builtin; refine wpList_append_own _ rfl _ _ 46 rfl (B + 2) 59 i0 (.agg #[.int .i64 0, .int .i64 0]) 2 16 Try.underlying46 hi hi0 hi1 hi2 rfl (by decide) _ _ _ rfl HW.out.row ⟨w.heap.size + 1, 0, none⟩ 1 1 [.int .i64 x, .int .i64 y] rfl rfl HW.out.news (by simp [Value.oneCell']) HL.out.1 HL.out.2 (by simp; omega) ?_; intro v5 w5 hown5 hgrow5 _; obtain ⟨e1, e2, e3, e4⟩ := keepW_grown HW.out hown5 hgrow5; obtain ⟨g5, cap5, rfl, r1, r2, r3, r4, _⟩ := rec_row hown5 (Nat.succ_pos _); have HE := Lib.hid (And.intro e3 e4); have r5 : (rs.length : Int) + 1 ≤ (cap5 : Int) := (by omega); have r6 : (cap5 : Int) ≤ 9223372036854775807 := (by unfold maxLen at r4; omega); clear hown5 hgrow5 e3 e4 r4)
      rw [rounds_succ]
      go_wp2_with fail
      go_ret
      exact ⟨⟨_, rfl⟩, HE.out.2, _, by rw [HK.out]; exact HE.out.1⟩
    · have hold : keep rs (x, y) = rs := keep_old (fun e => e.elim h0 (fun e => hlt (by rw [HBB.out] at e; exact e)))
      have HK := Lib.hid hold
      have hbe : Below B w (w.alloc (.cells #[.int .i64 x, .int .i64 y] 59)) := (Below.refl B w).alloc (by omega) _
      have hke := HKA.out.below ((Below.refl w.heap.size w).alloc (Nat.le_refl _) (.cells #[.int .i64 x, .int .i64 y] 59))
      have hpos : 0 < rs.length := Nat.pos_of_ne_zero (fun e => h0 (HR.out.1.2 (List.eq_nil_of_length_eq_zero e)))
      obtain ⟨g5, cap5, hv, r1, r2, r3, r4, _⟩ := rec_row HROW.out hpos
      obtain ⟨n, hn⟩ : ∃ n, rs.length = n := ⟨_, rfl⟩
      rw [hn] at hv r3
      rw [hv] at kc hke
      have HE := Lib.hid (And.intro hke hbe)
      have r5 : (n : Int) ≤ (cap5 : Int) := by omega
      have r6 : (cap5 : Int) ≤ 9223372036854775807 := by unfold maxLen at r4; omega
      clear h0 hbe hke hold HROW hn hv hpos r4 HKA HL
      go_enter Try.func65, Try.ntmps65
      go_wp2_with fail
      refine wp_loop_rounds 2 ?_
      rw [rounds_succ]
      go_wp2_with fail
      rw [rounds_succ]
      go_wp2_with fail
      go_ret
      exact ⟨⟨_, rfl⟩, HE.out.2, _, by rw [HK.out]; exact HE.out.1⟩

set_option maxRecDepth 100000 in
set_option maxHeartbeats 4000000 in
theorem keep_none (B : Nat) (v : Value) (rs : List (Int × Int)) (w : World) (hk : KeepAt w B v rs) :
    Calls Try.prog 65 #[.slice none 0 0, .pointer (some ⟨B + 1, 0, none⟩), .pointer (some ⟨B, 0, none⟩)] w fun e w' =>
      (∃ a, e = .returned (.slice a rs.length rs.length) ∧ ∀ k, k < rs.length → ∃ g, a = some ⟨g, 0, none⟩ ∧ g < w.heap.size ∧ w.cell? ⟨g, k * 2, none⟩ = some (.int .i64 (rs.getD k (0, 0)).1) ∧ w.cell? ⟨g, k * 2 + 1, none⟩ = some (.int .i64 (rs.getD k (0, 0)).2)) ∧ w = w' := by
  obtain ⟨row, kc, kf, b0, b1, f0, f1, sz⟩ := hk
  obtain ⟨n, hn⟩ : ∃ n, rs.length = n := ⟨_, rfl⟩
  by_cases h0 : n = 0
  · subst h0
    have hv : v = .slice none 0 0 ∨ ∃ g cap, v = .slice (some ⟨g, 0, none⟩) 0 cap ∧ cap ≤ maxLen := by
      rcases row.2 with ⟨h1, _⟩ | ⟨g, cap, cur, h1, h2, h3, h4, h5, h6⟩
      · exact .inl h1
      · rw [hn] at h1
        exact .inr ⟨g, cap, h1, h5⟩
    have HN : Hid (rs = []) := Lib.hid (List.eq_nil_of_length_eq_zero hn)
    rw [hn]
    clear row hn b0 b1
    rcases hv with rfl | ⟨g, cap, rfl, hc⟩
    · go_enter Try.func65, Try.ntmps65
      go_wp2_with fail
      refine wp_loop_rounds 1 ?_
      rw [rounds_succ]
      go_wp2_with fail
      go_ret
      exact ⟨⟨none, rfl, fun k hk => by omega⟩, rfl⟩
    · have r6 : (cap : Int) ≤ 9223372036854775807 := by unfold maxLen at hc; omega
      have r5 : (0 : Int) ≤ (cap : Int) := by omega
      clear hc
      go_enter Try.func65, Try.ntmps65
      go_wp2_with fail
      refine wp_loop_rounds 1 ?_
      rw [rounds_succ]
      go_wp2_with fail
      go_ret
      exact ⟨⟨_, rfl, fun k hk => by omega⟩, rfl⟩
  · obtain ⟨g5, cap5, hv, r1, r2, r3, r4, r7⟩ := rec_row row (by omega)
    have hat : ∀ k, k < n → ∃ g, some (⟨g5, 0, none⟩ : Addr) = some ⟨g, 0, none⟩ ∧ g < w.heap.size ∧ w.cell? ⟨g, k * 2, none⟩ = some (.int .i64 (rs.getD k (0, 0)).1) ∧ w.cell? ⟨g, k * 2 + 1, none⟩ = some (.int .i64 (rs.getD k (0, 0)).2) := fun k hk => by
      have h1 := recCells_at rs k (by omega)
      rw [Nat.mul_comm 2 k] at h1
      exact ⟨g5, rfl, r2, (r7 (k * 2) (by omega)).trans h1.1, (r7 (k * 2 + 1) (by omega)).trans h1.2⟩
    have HAT := Lib.hid hat
    rw [hn] at hv r3 ⊢
    subst hv
    have r5 : (n : Int) ≤ (cap5 : Int) := by omega
    have r6 : (cap5 : Int) ≤ 9223372036854775807 := by unfold maxLen at r4; omega
    clear row hn r7 hat b0 b1 r4
    go_enter Try.func65, Try.ntmps65
    go_wp2_with fail
    refine wp_loop_rounds 1 ?_
    rw [rounds_succ]
    go_wp2_with fail
    go_ret
    exact ⟨⟨_, rfl, HAT.out⟩, rfl⟩
end Go.Proofs.Ytponmblponfdaaa
