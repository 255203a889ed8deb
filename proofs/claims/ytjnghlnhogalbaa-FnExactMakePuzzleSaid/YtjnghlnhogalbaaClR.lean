/-
  ROWS OF CLUES OF THE CALL's OWN: 'pzWithout' of the model, 'Grow', 'Concat', 'cluesWithout' of the program.
-/
import Derived.Test.YtjnghlnhogalbaaSls
import Derived.Test.YtjnghlnhogalbaaPzG
import Derived.Deep.RegionLaw
import Derived.Deep.RegionHeld3
import Derived.Deep.AppendLies
import Derived.Maps.AppendAt
import Derived.Lib.AppendZeros
import Derived.Deep.CutRange
namespace Go.Proofs.Ytjnghlnhogalbaa
open Go.RowKit
set_option linter.unusedVariables false

theorem step_append_own_at {P : Program} {ops : Array Oper} {o : Oper} {a : Act} {w : World} {K : Act → World → Prop} {Q : Exit → Act → World → Prop} {E : Prop} (hgd : o.guard = none) (s x : Operand) (t : TypeId)
    (ho : o.op = .call { callee := .builtin .append, args := #[s, x], argTypes := #[t, t] })
    (base : Nat) (e : TypeId) (i : TypeInfo) (z : Value) (size bytes : Nat) (ht : P.underlying t = some (.slice e)) (hi : P.info? e = some i) (hz : i.zero = some z)
    (hsize : i.size = size) (hby : i.bytes = bytes) (hzs : z.cells.size = size) (hsz : 0 < size)
    (v : Value) (n : Nat) (xs : List Value) (hs : a.eval s = v) (hown : w.ownsRow base e size v n xs)
    (ad : Addr) (m c : Nat) (news : List Value) (hx : a.eval x = .slice (some ad) m c) (hl : news.length = m * size) (hnews : ∀ j u, news[j]? = some u → w.cell? (ad.add j) = some u) (h1 : ∀ u ∈ news, u.oneCell' = true)
    (h63 : n + m ≤ maxLen) (hbytes : (n + m) * bytes ≤ 140737488355328) (hbase : base ≤ w.heap.size)
    (h : ∀ v' w', w'.ownsRow base e size v' (n + m) (xs ++ news) → w.grownBy w' v.ownBlock → (v'.ownBlock = v.ownBlock ∨ v'.ownBlock = some w.heap.size) → K (a.put o.dst v') w') :
    if Region.wanted o (yielded ops a.tmps) = true then Oper.wp P o a w K Q else E := by
  rw [if_pos (by simp [Region.wanted, hgd])]
  obtain ⟨v', w', hr, h2, h3, h4, h5⟩ := run_append_own_at (P := P) w base t o.type e i z size bytes ht hi hz hsize hby hzs hsz v n xs hown ad m c news hl hnews h1 h63 hbytes hbase
  unfold Oper.wp execOp
  simp only [ho, resolve, invoke, builtin, Sem.run_bind, Sem.run_pure, Result.andThen_ok, List.map_toArray, List.map_cons, List.map_nil, hs, hx, hr]
  exact h v' w' h2 h3 h5

theorem grown_below {w1 W w5 : World} {row : Option Nat} (hg : W.grownBy w5 row) (hb : Below w1.heap.size w1 W) (hr : ∀ k, row = some k → w1.heap.size ≤ k) : Below w1.heap.size w1 w5 := hb.grown hg hb.size hr
theorem below_up {w w1 W : World} (h1 : Below w.heap.size w w1) (hb : Below w1.heap.size w1 W) : Below w.heap.size w W := h1.trans (hb.mono h1.size)
/-- Clues as cells, one behind the other. -/
def ptCells (qs : List Pt) : List Value := qs.flatMap fun q => [.int .i64 q.1, .int .i64 q.2.1, .int .i64 q.2.2]
theorem ptCells_snoc (qs : List Pt) (q : Pt) : ptCells (qs ++ [q]) = ptCells qs ++ [.int .i64 q.1, .int .i64 q.2.1, .int .i64 q.2.2] := by simp [ptCells]
theorem ptCells_length (qs : List Pt) : (ptCells qs).length = qs.length * 3 := by
  induction qs with
  | nil => rfl
  | cons q qs ih => simp [ptCells] at ih ⊢; omega
theorem ptCells_at : ∀ (qs : List Pt) (k : Nat), k < qs.length → (ptCells qs)[k * 3]? = some (.int .i64 (qs.getD k pt0).1) ∧ (ptCells qs)[k * 3 + 1]? = some (.int .i64 (qs.getD k pt0).2.1) ∧ (ptCells qs)[k * 3 + 2]? = some (.int .i64 (qs.getD k pt0).2.2)
  | [], k, h => by simp at h
  | q :: qs, 0, h => by simp [ptCells]
  | q :: qs, k + 1, h => by
    have ih := ptCells_at qs k (by simpa using h)
    have e : ptCells (q :: qs) = [.int .i64 q.1, .int .i64 q.2.1, .int .i64 q.2.2] ++ ptCells qs := by simp [ptCells]
    rw [e, List.getElem?_append_right (by simp; omega), List.getElem?_append_right (by simp; omega), List.getElem?_append_right (by simp; omega)]
    simpa [show (k + 1) * 3 - 3 = k * 3 by omega, show (k + 1) * 3 + 1 - 3 = k * 3 + 1 by omega, show (k + 1) * 3 + 2 - 3 = k * 3 + 2 by omega] using ih
/-- A row of parts of the call's own. -/
def ClsAt (w : World) (B : Nat) (v : Value) (qs : List Pt) : Prop := w.ownsRow B 85 3 v qs.length (ptCells qs)
theorem clsAt_nil (w : World) (B : Nat) : ClsAt w B (.slice none 0 0) [] := World.ownsRow_nil _ _ _ _
theorem ClsAt.prow {w : World} {B : Nat} {v : Value} {qs : List Pt} (h : ClsAt w B v qs) : ∃ a c, v = .slice a qs.length c ∧ PRow w B w.heap.size a qs := by
  rcases h.2 with ⟨rfl, h0⟩ | ⟨g, cap, cur, rfl, hB, hg, hn, hm, _⟩
  · obtain rfl : qs = [] := List.eq_nil_of_length_eq_zero h0
    exact ⟨none, 0, rfl, fun h => (h rfl).elim⟩
  · refine ⟨_, cap, rfl, fun _ => ⟨g, rfl, hB, (Array.getElem?_eq_some_iff.1 hg).1, fun k hk => ⟨⟨?_, ?_, ?_⟩, World.ownsRow.frozenAt h _, World.ownsRow.frozenAt h _, World.ownsRow.frozenAt h _⟩⟩⟩
    · rw [World.ownsRow.cellAt h (k * 3) (by omega)]; exact (ptCells_at qs k hk).1
    · rw [World.ownsRow.cellAt h (k * 3 + 1) (by omega)]; exact (ptCells_at qs k hk).2.1
    · rw [World.ownsRow.cellAt h (k * 3 + 2) (by omega)]; exact (ptCells_at qs k hk).2.2
theorem three_new (w : World) (x y z : Value) (T : TypeId) {s : Nat} (hs : w.heap.size = s) {j : Nat} {u : Value} (h : [x, y, z][j]? = some u) : (w.alloc (.cells #[x, y, z] T)).cell? ((⟨s, 0, none⟩ : Addr).add j) = some u := by
  subst hs
  cases j with
  | zero => simp at h; subst h; simp [Addr.add]
  | succ j => cases j with
    | zero => simp at h; subst h; simp [Addr.add]
    | succ j => cases j with
      | zero => simp at h; subst h; simp [Addr.add]
      | succ j => simp at h

theorem ptCells_append (ps qs : List Pt) : ptCells (ps ++ qs) = ptCells ps ++ ptCells qs := by simp [ptCells]
theorem ptCells_one (ps : List Pt) : ∀ u ∈ ptCells ps, u.oneCell' = true := by
  intro u hu
  simp only [ptCells, List.mem_flatMap] at hu
  obtain ⟨q, _, hu⟩ := hu
  simp at hu
  rcases hu with rfl | rfl | rfl <;> rfl
theorem own_formP {w : World} {B : Nat} {v : Value} {n : Nat} {vs : List Value} {T : TypeId} (h : w.ownsRow B T 3 v n vs) : ∃ a cap, v = .slice a n cap := by
  rcases h.2 with ⟨rfl, rfl⟩ | ⟨g, cap, cur, hv, _⟩
  · exact ⟨none, 0, rfl⟩
  · exact ⟨_, cap, hv⟩


theorem clCells_src {w : World} {b off : Nat} {ps : List Pt} (h : ClIn w (some ⟨b, off, none⟩) ps) : ∀ j u, (ptCells ps)[j]? = some u → w.cell? ((⟨b, off, none⟩ : Addr).add j) = some u := by
  intro j u hu
  have hj : j < ps.length * 3 := by have := (List.getElem?_eq_some_iff.1 hu).1; rwa [ptCells_length] at this
  have e : ((⟨b, off, none⟩ : Addr).add j) = ⟨b, off + j, none⟩ := by simp [Addr.add]
  rw [e]
  clear e
  obtain ⟨k, hk⟩ : ∃ k, j / 3 = k := ⟨_, rfl⟩
  obtain ⟨c0, c1, c2⟩ := ptCells_at ps k (by omega)
  obtain ⟨b', off', e, _, k0, k1, k2⟩ := h k (by omega)
  simp only [Option.some.injEq, Addr.mk.injEq] at e
  obtain ⟨rfl, rfl, _⟩ := e
  have hm : j = k * 3 ∨ j = k * 3 + 1 ∨ j = k * 3 + 2 := by omega
  rcases hm with rfl | rfl | rfl
  · rw [c0] at hu; rw [← hu]; exact k0
  · rw [c1] at hu; rw [← hu, ← Nat.add_assoc]; exact k1
  · rw [c2] at hu; rw [← hu, ← Nat.add_assoc]; exact k2
/-- The row, its room, and where it lies. -/
theorem ClsAt.row {w : World} {B : Nat} {v : Value} {qs : List Pt} (h : ClsAt w B v qs) : ∃ a c, v = .slice a qs.length c ∧ (qs.length ≤ c ∧ c ≤ maxLen) ∧ PRow w B w.heap.size a qs := by
  rcases h.2 with ⟨rfl, h0⟩ | ⟨g, cap, cur, rfl, hB, hg, hn, hm, _⟩
  · obtain rfl : qs = [] := List.eq_nil_of_length_eq_zero h0
    exact ⟨none, 0, rfl, ⟨Nat.le_refl _, Nat.zero_le _⟩, fun h => (h rfl).elim⟩
  · obtain ⟨a, c, e, hp⟩ := h.prow
    cases e
    exact ⟨_, cap, rfl, ⟨hn, hm⟩, hp⟩
theorem ClsAt.cl {w : World} {B : Nat} {v : Value} {qs : List Pt} (h : ClsAt w B v qs) : ∃ a c, v = .slice a qs.length c ∧ (qs.length ≤ c ∧ c ≤ maxLen) ∧ ClIn w a qs := by
  obtain ⟨a, c, rfl, h1, h2⟩ := h.row
  exact ⟨a, c, rfl, h1, h2.cl (Nat.le_refl _)⟩
/-- A row of clues that the call has made. -/
def RetCls (xs : List Pt) (w : World) (e : Ending) (w' : World) : Prop := ∃ v, e = .returned v ∧ ClsAt w' w.heap.size v xs ∧ Below w.heap.size w w'
/-- Clues without one. -/
def clW (ps : List Pt) (k : Nat) : List Pt := ps.take k ++ ps.drop (k + 1)
theorem clW_length {ps : List Pt} {k : Nat} (h : k < ps.length) : (clW ps k).length = k + (ps.length - (k + 1)) := by
  unfold clW
  rw [List.length_append, List.length_take, List.length_drop]
  omega
theorem clW_all {ps : List Pt} {f : Pt → Bool} (k : Nat) (h : ps.all f = true) : (clW ps k).all f = true := by
  rw [List.all_eq_true] at h ⊢
  intro x hx
  unfold clW at hx
  rw [List.mem_append] at hx
  rcases hx with hx | hx
  · exact h x (List.mem_of_mem_take hx)
  · exact h x (List.mem_of_mem_drop hx)

set_option maxRecDepth 100000 in
set_option maxHeartbeats 8000000 in
theorem pzWithout_a (ps : List Pt) (k b off : Nat) (w : World) (hl : ps.length ≤ 6) (hk : ps.length = k + 1) (hx : ClIn w (some ⟨b, off, none⟩) ps) :
    Calls Try.prog 38 #[.slice (some ⟨b, off, none⟩) ps.length (k + 1), .int .i64 (k : Int)] w (RetCls (clW ps k) w) := by
  have hc : ps.length ≤ k + 1 ∧ k + 1 ≤ maxLen := ⟨by omega, by unfold maxLen; omega⟩
  have hx1 := hx.take k
  have hx2 : ClIn w (some ⟨b, off, none⟩) (ps.drop (k + 1)) := by rw [List.drop_eq_nil_of_le (by omega)]; exact ClIn.nil _ _
  have HX1 : Hid (∀ W, Below w.heap.size w W → ∀ j u, (ptCells (ps.take k))[j]? = some u → W.cell? ((⟨b, off, none⟩ : Addr).add j) = some u) := Lib.hid (fun W hb => clCells_src (hx1.keep hb))
  have HX2 : Hid (∀ W, Below w.heap.size w W → ∀ j u, (ptCells (ps.drop (k + 1)))[j]? = some u → W.cell? ((⟨b, off, none⟩ : Addr).add j) = some u) := Lib.hid (fun W hb => clCells_src (hx2.keep hb))
  obtain ⟨i0, hi, hi0, hi1, hi2⟩ := info_parts infoCl
  have HP1 : Hid ((ptCells (ps.take k)).length = k * 3) := Lib.hid (by rw [ptCells_length, List.length_take]; congr 1; omega)
  have HP2 : Hid ((ptCells (ps.drop (k + 1))).length = 0 * 3) := Lib.hid (by rw [ptCells_length, List.length_drop]; congr 1; omega)
  have HQ1 := Lib.hid (ptCells_one (ps.take k))
  have HQ2 := Lib.hid (ptCells_one (ps.drop (k + 1)))
  have HFIN : Hid (∀ B W v, W.ownsRow B 85 3 v (k + 0) (ptCells (ps.take k) ++ ptCells (ps.drop (k + 1))) → ClsAt W B v (clW ps k)) := Lib.hid (fun B W v h => by
    unfold ClsAt
    rw [clW_length (by omega), clW, ptCells_append, show ps.length - (k + 1) = 0 by omega]
    exact h)
  have hk2 : (k : Int) ≤ 5 := by omega
  have hwk : IntKind.i64.wrap ((k : Int) + 1) = (k : Int) + 1 := IntWalk.i64_in _ (by omega)
  have h15 : ((k : Int) + 1).toNat = k + 1 := by omega
  have hk1 : (k : Int) ≤ (k : Int) + 1 := by omega
  have hk3 : (0 : Int) ≤ (k : Int) + 1 := by omega
  have hm1 : 0 + k ≤ maxLen := by unfold maxLen; omega
  have hm2 : k + 0 ≤ maxLen := by unfold maxLen; omega
  have hm3 : (k + 0) * 24 ≤ 140737488355328 := by omega
  rw [hk]
  clear hx1 hx2 hx hl hc hk
  have HOW0 : Hid ((w.alloc (.cells #[] 85)).ownsRow w.heap.size 85 3 (.slice (some ⟨w.heap.size, 0, none⟩) 0 0) 0 []) := Lib.hid (by
    have := World.ownsRow_lit (base := w.heap.size) (e := 85) (size := 3) w #[] 0 (Nat.le_refl _) (by unfold maxLen; omega) rfl
    simpa using this)
  have HAL : Hid (Below w.heap.size w (w.alloc (.cells #[] 85))) := Lib.hid (below_new w _)
  go_enter Try.func38, Try.ntmps38
  go_upto_region 1 with fail
  go_region_law (first
    | (refine step_append_own_at rfl (.tmp 5) (.tmp 8) 32 rfl w.heap.size 85 i0 (.agg #[.int .i64 0, .int .i64 0, .int .i64 0]) 3 24 Try.underlying32 hi hi0 hi1 hi2 rfl (by decide) (.slice (some ⟨w.heap.size, 0, none⟩) 0 0) 0 [] (by simp [Act.eval]) (by first | exact HOW0.out | exact HOW0.out.drew) ⟨b, off, none⟩ k (k + 1) (ptCells (ps.take k)) (by simp [Act.eval]) HP1.out (HX1.out _ (by first | exact HAL.out | exact HAL.out.drew | exact (Below.refl _ _).drew.trans HAL.out | exact ((Below.refl _ _).drew.trans HAL.out).drew)) HQ1.out hm1 (by omega) (by simp) ?_; intro v5 w5 hown5 hgrow5 _; have HB5 : Hid (Below w.heap.size w w5) := Lib.hid (grown_below hgrow5 (by first | exact HAL.out | exact HAL.out.drew | exact (Below.refl _ _).drew.trans HAL.out | exact ((Below.refl _ _).drew.trans HAL.out).drew) (fun k e => (World.ownsRow.lt HOW0.out k e).1)); obtain ⟨p5, d5, hv5⟩ := own_formP hown5; subst hv5; have HO5 : Hid (w5.ownsRow w.heap.size 85 3 (.slice p5 k d5) k (ptCells (ps.take k))) := Lib.hid (by simpa using hown5); clear hown5 hgrow5)
    | (refine step_append_own_at rfl (.tmp 9) (.tmp 13) 32 rfl w.heap.size 85 i0 (.agg #[.int .i64 0, .int .i64 0, .int .i64 0]) 3 24 Try.underlying32 hi hi0 hi1 hi2 rfl (by decide) (.slice p5 k d5) k (ptCells (ps.take k)) (by simp [Act.eval]) (by first | exact HO5.out | exact HO5.out.drew) ⟨b, off, none⟩ 0 0 (ptCells (ps.drop (k + 1))) (by simp [Act.eval]) HP2.out (HX2.out _ (by first | exact HB5.out | exact HB5.out.drew)) HQ2.out hm2 hm3 (by have := HB5.out.size; first | exact this | (simp; omega)) ?_; intro v6 w6 hown6 hgrow6 _; have HO6 := Lib.hid hown6; have HB6 : Hid (Below w.heap.size w w6) := Lib.hid (grown_below hgrow6 (by first | exact HB5.out | exact HB5.out.drew | exact HB5.out.drew.drew) (fun k e => (World.ownsRow.lt HO5.out k e).1)); clear hown6 hgrow6))
  all_goals
    go_wp2_with fail
    go_ret
    exact ⟨_, rfl, by first | exact HFIN.out _ _ _ HO6.out | exact HFIN.out _ _ _ HO6.out.drew, by first | exact HB6.out | exact HB6.out.drew⟩

set_option maxRecDepth 100000 in
set_option maxHeartbeats 8000000 in
theorem pzWithout_b (ps : List Pt) (k b off : Nat) (c : Nat) (w : World) (hl : ps.length ≤ 6) (hk : k < ps.length) (hc : ps.length ≤ c ∧ c ≤ maxLen) (hck : ¬ (c = k + 1)) (hx : ClIn w (some ⟨b, off, none⟩) ps) :
    Calls Try.prog 38 #[.slice (some ⟨b, off, none⟩) ps.length c, .int .i64 (k : Int)] w (RetCls (clW ps k) w) := by
  have hx1 := hx.take k
  have hx2 : ClIn w (some ⟨b, off + (k + 1) * 3, none⟩) (ps.drop (k + 1)) := hx.drop
  have HX1 : Hid (∀ W, Below w.heap.size w W → ∀ j u, (ptCells (ps.take k))[j]? = some u → W.cell? ((⟨b, off, none⟩ : Addr).add j) = some u) := Lib.hid (fun W hb => clCells_src (hx1.keep hb))
  have HX2 : Hid (∀ W, Below w.heap.size w W → ∀ j u, (ptCells (ps.drop (k + 1)))[j]? = some u → W.cell? ((⟨b, off + (k + 1) * 3, none⟩ : Addr).add j) = some u) := Lib.hid (fun W hb => clCells_src (hx2.keep hb))
  obtain ⟨i0, hi, hi0, hi1, hi2⟩ := info_parts infoCl
  have HP1 : Hid ((ptCells (ps.take k)).length = k * 3) := Lib.hid (by rw [ptCells_length, List.length_take]; congr 1; omega)
  have HP2 : Hid ((ptCells (ps.drop (k + 1))).length = (ps.length - (k + 1)) * 3) := Lib.hid (by rw [ptCells_length, List.length_drop])
  have HQ1 := Lib.hid (ptCells_one (ps.take k))
  have HQ2 := Lib.hid (ptCells_one (ps.drop (k + 1)))
  have HFIN : Hid (∀ B W v, W.ownsRow B 85 3 v (k + (ps.length - (k + 1))) (ptCells (ps.take k) ++ ptCells (ps.drop (k + 1))) → ClsAt W B v (clW ps k)) := Lib.hid (fun B W v h => by
    unfold ClsAt
    rw [clW_length (by omega), clW, ptCells_append]
    exact h)
  have hk2 : (k : Int) ≤ 5 := by omega
  have hwk : IntKind.i64.wrap ((k : Int) + 1) = (k : Int) + 1 := IntWalk.i64_in _ (by omega)
  have h15 : ((k : Int) + 1).toNat = k + 1 := by omega
  have hk1 : (k : Int) ≤ (k : Int) + 1 := by omega
  have hk3 : (0 : Int) ≤ (k : Int) + 1 := by omega
  have hm1 : 0 + k ≤ maxLen := by unfold maxLen; omega
  have hm2 : k + (ps.length - (k + 1)) ≤ maxLen := by unfold maxLen; omega
  have hm3 : (k + (ps.length - (k + 1))) * 24 ≤ 140737488355328 := by omega
  obtain ⟨L, hL⟩ : ∃ L, ps.length = L := ⟨_, rfl⟩
  rw [hL] at HP2 HFIN hm2 hm3 hk hc ⊢
  have hkL : (k : Int) + 1 ≤ (L : Int) := by omega
  have hkc : (k : Int) ≤ (c : Int) := by omega
  clear hx1 hx2 hx hl hL hc
  have HOW0 : Hid ((w.alloc (.cells #[] 85)).ownsRow w.heap.size 85 3 (.slice (some ⟨w.heap.size, 0, none⟩) 0 0) 0 []) := Lib.hid (by
    have := World.ownsRow_lit (base := w.heap.size) (e := 85) (size := 3) w #[] 0 (Nat.le_refl _) (by unfold maxLen; omega) rfl
    simpa using this)
  have HAL : Hid (Below w.heap.size w (w.alloc (.cells #[] 85))) := Lib.hid (below_new w _)
  go_enter Try.func38, Try.ntmps38
  go_upto_region 1 with fail
  go_region_law (first
    | (refine step_append_own_at rfl (.tmp 5) (.tmp 8) 32 rfl w.heap.size 85 i0 (.agg #[.int .i64 0, .int .i64 0, .int .i64 0]) 3 24 Try.underlying32 hi hi0 hi1 hi2 rfl (by decide) (.slice (some ⟨w.heap.size, 0, none⟩) 0 0) 0 [] (by simp [Act.eval]) (by first | exact HOW0.out | exact HOW0.out.drew) ⟨b, off, none⟩ k c (ptCells (ps.take k)) (by simp [Act.eval]) HP1.out (HX1.out _ (by first | exact HAL.out | exact HAL.out.drew | exact (Below.refl _ _).drew.trans HAL.out | exact ((Below.refl _ _).drew.trans HAL.out).drew)) HQ1.out hm1 (by omega) (by simp) ?_; intro v5 w5 hown5 hgrow5 _; have HB5 : Hid (Below w.heap.size w w5) := Lib.hid (grown_below hgrow5 (by first | exact HAL.out | exact HAL.out.drew | exact (Below.refl _ _).drew.trans HAL.out | exact ((Below.refl _ _).drew.trans HAL.out).drew) (fun k e => (World.ownsRow.lt HOW0.out k e).1)); obtain ⟨p5, d5, hv5⟩ := own_formP hown5; subst hv5; have HO5 : Hid (w5.ownsRow w.heap.size 85 3 (.slice p5 k d5) k (ptCells (ps.take k))) := Lib.hid (by simpa using hown5); clear hown5 hgrow5)
    | (refine step_append_own_at rfl (.tmp 9) (.tmp 13) 32 rfl w.heap.size 85 i0 (.agg #[.int .i64 0, .int .i64 0, .int .i64 0]) 3 24 Try.underlying32 hi hi0 hi1 hi2 rfl (by decide) (.slice p5 k d5) k (ptCells (ps.take k)) (by simp [Act.eval]) (by first | exact HO5.out | exact HO5.out.drew) ⟨b, off + (k + 1) * 3, none⟩ (L - (k + 1)) (c - (k + 1)) (ptCells (ps.drop (k + 1))) (by simp [Act.eval]) HP2.out (HX2.out _ (by first | exact HB5.out | exact HB5.out.drew)) HQ2.out hm2 hm3 (by have := HB5.out.size; first | exact this | (simp; omega)) ?_; intro v6 w6 hown6 hgrow6 _; have HO6 := Lib.hid hown6; have HB6 : Hid (Below w.heap.size w w6) := Lib.hid (grown_below hgrow6 (by first | exact HB5.out | exact HB5.out.drew | exact HB5.out.drew.drew) (fun k e => (World.ownsRow.lt HO5.out k e).1)); clear hown6 hgrow6))
  all_goals
    go_wp2_with fail
    go_ret
    exact ⟨_, rfl, by first | exact HFIN.out _ _ _ HO6.out | exact HFIN.out _ _ _ HO6.out.drew, by first | exact HB6.out | exact HB6.out.drew⟩

theorem pzWithout_any (ps : List Pt) (k : Nat) (a : Option Addr) (c : Nat) (w : World) (hl : ps.length ≤ 6) (hk : k < ps.length) (hc : ps.length ≤ c ∧ c ≤ maxLen) (hx : ClIn w a ps) :
    Calls Try.prog 38 #[.slice a ps.length c, .int .i64 (k : Int)] w (RetCls (clW ps k) w) := by
  obtain ⟨b, off, rfl, _⟩ := hx k hk
  by_cases h4 : c = k + 1
  · subst h4
    exact pzWithout_a ps k b off w hl (by omega) hx
  · exact pzWithout_b ps k b off c w hl hk hc h4 hx


set_option maxRecDepth 100000 in
set_option maxHeartbeats 1000000 in
/-- Grow of nil. -/
theorem growC_any (n : Nat) (h0 : 0 < n) (h6 : n ≤ 6) (w : World) :
    Calls Try.prog 108 #[.slice none 0 0, .int .i64 (n : Int)] w fun e w' => ∃ c, e = .returned (.slice (some ⟨w.heap.size, 0, none⟩) 0 c) ∧ w'.ownsRow w.heap.size 85 3 (.slice (some ⟨w.heap.size, 0, none⟩) 0 c) 0 [] ∧ Below w.heap.size w w' := by
  obtain ⟨i0, hi, hi0, hi1, hi2⟩ := info_parts infoCl
  have h1 : (0 : Int) < (n : Int) := by omega
  have h2 : (n : Int) ≤ 6 := by omega
  have hrun := Lib.run_append_nil_zeros (P := Try.prog) w 32 3 32 85 i0 (.agg #[.int .i64 0, .int .i64 0, .int .i64 0]) .i64 .i64 Try.underlying32 Try.underlying3 hi hi0 n h0 (by rw [hi1]; decide) (by omega) (by rw [hi2]; omega)
  have hge := grownCap_ge w n 0 85
  have hcm := grownCap_le_maxLen w n 0 85 (by unfold maxLen; omega)
  have HOWN : Hid ((w.drew.alloc (.cells (Builtin.zeroCells (Value.agg #[.int .i64 0, .int .i64 0, .int .i64 0]).cells n ++ Builtin.zeroCells (Value.agg #[.int .i64 0, .int .i64 0, .int .i64 0]).cells (grownCap w n 0 85 - n)) 85)).ownsRow w.heap.size 85 3 (.slice (some ⟨w.heap.size, 0, none⟩) 0 (grownCap w n 0 85)) 0 []) := Lib.hid (by
    refine ⟨rfl, .inr ⟨w.heap.size, _, _, rfl, Nat.le_refl _, heap_alloc_new w.drew _, Nat.zero_le _, hcm, ?_, rfl⟩⟩
    simp only [Array.size_append, size_zeroCells, Value.cells]
    show n * 3 + (grownCap w n 0 85 - n) * 3 = _
    omega)
  have HB : Hid (Below w.heap.size w (w.drew.alloc (.cells (Builtin.zeroCells (Value.agg #[.int .i64 0, .int .i64 0, .int .i64 0]).cells n ++ Builtin.zeroCells (Value.agg #[.int .i64 0, .int .i64 0, .int .i64 0]).cells (grownCap w n 0 85 - n)) 85))) := Lib.hid ((Below.refl w.heap.size w).drew.trans (below_new w.drew _))
  obtain ⟨C, hC⟩ : ∃ C, C = grownCap w n 0 85 := ⟨_, rfl⟩
  rw [← hC] at hrun hge hcm HOWN HB
  have HRUN := Lib.hid hrun
  have hC1 : (C : Int) ≤ 9223372036854775807 := by unfold maxLen at hcm; omega
  clear hC hrun hcm
  go_enter Try.func108, Try.ntmps108
  go_wp2_with (at_builtin; refine Lib.wpList_append_run _ rfl _ _ _ _ rfl _ _ rfl rfl _ _ HRUN.out ?_)
  go_ret
  exact ⟨C, rfl, HOWN.out, HB.out⟩
end Go.Proofs.Ytjnghlnhogalbaa
