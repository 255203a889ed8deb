/-
  'DoubleOther' of the model.
-/
import Derived.Test.YtkikmmnmppikpaaNgM
import Derived.Test.YtkikmmnmppikpaaNgS
import Derived.Deep.RegionLaw
import Derived.Deep.RegionHeld3
import Derived.Deep.AppendLies
namespace Go.Proofs.Ytkikmmnmppikpaa
open Go.RowKit
set_option linter.unusedVariables false

theorem step_append_own_at {P : Program} {ops : Array Oper} {o : Oper} {a : Act} {w : World} {K : Act → World → Prop} {Q : Exit → Act → World → Prop} {E : Prop} (hgd : o.guard = none) (s x : Operand) (t : TypeId)
    (ho : o.op = .call { callee := .builtin .append, args := #[s, x], argTypes := #[t, t] })
    (base : Nat) (e : TypeId) (i : TypeInfo) (z : Value) (size bytes : Nat) (ht : P.underlying t = some (.slice e)) (hi : P.info? e = some i) (hz : i.zero = some z)
    (hsize : i.size = size) (hby : i.bytes = bytes) (hzs : z.cells.size = size) (hsz : 0 < size)
    (v : Value) (n : Nat) (xs : List Value) (hs : a.eval s = v) (hown : w.ownsRow base e size v n xs)
    (ad : Addr) (m c : Nat) (news : List Value) (hx : a.eval x = .slice (some ad) m c) (hl : news.length = m * size) (hnews : ∀ j u, news[j]? = some u → w.cell? (ad.add j) = some u) (h1 : ∀ u ∈ news, u.oneCell' = true)
    (h63 : n + m ≤ maxLen) (hbytes : (n + m) * bytes ≤ 140737488355328) (hbase : base ≤ w.heap.size)
    (h : ∀ v' w', w'.ownsRow base e size v' (n + m) (xs ++ news) → w.grownBy w' v.ownBlock → (v'.ownBlock = v.ownBlock ∨ v'.ownBlock = some w.heap.size) → K (a.put o.dst v') w') :
    if Region.wanted o (yielded ops a.tmps) = true then Oper.wp P o a w K Q else E := by
  rw [if_pos (by simp [Region.wanted, hgd])]
  obtain ⟨v', w', hr, h2, h3, h4, h5⟩ := run_append_own_at (P := P) w base t o.type e i z size bytes ht hi hz hsize hby hzs hsz v n xs hown ad m c news hl hnews h1 h63 hbytes hbase
  unfold Oper.wp execOp
  simp only [ho, resolve, invoke, builtin, Sem.run_bind, Sem.run_pure, Result.andThen_ok, List.map_toArray, List.map_cons, List.map_nil, hs, hx, hr]
  exact h v' w' h2 h3 h5

theorem grown_below {w1 W w5 : World} {row : Option Nat} (hg : W.grownBy w5 row) (hb : Below w1.heap.size w1 W) (hr : ∀ k, row = some k → w1.heap.size ≤ k) : Below w1.heap.size w1 w5 := hb.grown hg hb.size hr
theorem below_up {w w1 W : World} (h1 : Below w.heap.size w w1) (hb : Below w1.heap.size w1 W) : Below w.heap.size w W := h1.trans (hb.mono h1.size)
/-- The doubled one. -/
def dbX (ps : List Pt) : List Pt := if omB ps = true ∧ 2 * ps.length ≤ 8 then ps ++ ps else []
def dbB (ps : List Pt) : Bool := omB ps && decide (2 * ps.length ≤ 8)
theorem dbX_len (ps : List Pt) : (dbX ps).length ≤ 1048576 := by
  unfold dbX
  split
  · simp; omega
  · simp

theorem ptCells_append (ps qs : List Pt) : ptCells (ps ++ qs) = ptCells ps ++ ptCells qs := by simp [ptCells]
theorem ptCells_src {w : World} {g : Nat} {ps : List Pt} (h : ∀ k, k < ps.length → PtCell w g (k * 3) (ps.getD k pt0)) : ∀ j u, (ptCells ps)[j]? = some u → w.cell? ((⟨g, 0, none⟩ : Addr).add j) = some u := by
  intro j u hu
  have hj : j < ps.length * 3 := by have := (List.getElem?_eq_some_iff.1 hu).1; rwa [ptCells_length] at this
  have e : ((⟨g, 0, none⟩ : Addr).add j) = ⟨g, j, none⟩ := by simp [Addr.add]; intro h; exact h.symm
  rw [e]
  clear e
  obtain ⟨k, hk⟩ : ∃ k, j / 3 = k := ⟨_, rfl⟩
  obtain ⟨c0, c1, c2⟩ := ptCells_at ps k (by omega)
  obtain ⟨k0, k1, k2⟩ := h k (by omega)
  have hm : j = k * 3 ∨ j = k * 3 + 1 ∨ j = k * 3 + 2 := by omega
  rcases hm with rfl | rfl | rfl
  · rw [c0] at hu; rw [← hu]; exact k0
  · rw [c1] at hu; rw [← hu]; exact k1
  · rw [c2] at hu; rw [← hu]; exact k2
theorem ptCells_one (ps : List Pt) : ∀ u ∈ ptCells ps, u.oneCell' = true := by
  intro u hu
  simp only [ptCells, List.mem_flatMap] at hu
  obtain ⟨q, _, hu⟩ := hu
  simp at hu
  rcases hu with rfl | rfl | rfl <;> rfl
theorem own_formP {w : World} {B : Nat} {v : Value} {n : Nat} {vs : List Value} {T : TypeId} (h : w.ownsRow B T 3 v n vs) : ∃ a cap, v = .slice a n cap := by
  rcases h.2 with ⟨rfl, rfl⟩ | ⟨g, cap, cur, hv, _⟩
  · exact ⟨none, 0, rfl⟩
  · exact ⟨_, cap, hv⟩

set_option maxRecDepth 100000 in
set_option maxHeartbeats 4000000 in
theorem sDoubleOther (ps : List Pt) (v : Value) (w : World) (hl : ps.length ≤ 1048576) (h : OthIn w v ps) :
    Calls Try.prog 23 #[v] w (RetOth (dbX ps) (dbB ps) w) := by
  obtain ⟨a, c, rfl, hx⟩ := h.rd
  have HG := Lib.hid (fun X Y => omGood_any ps (.agg #[.slice a ps.length c]) ((w.alloc X).alloc Y) hl (h.kept ((below_new w X).alloc (by simp) Y)))
  have HX := Lib.hid hx
  clear h hx
  by_cases hg : omB ps = true
  case neg =>
    have hg' : omB ps = false := by simpa using hg
    rw [hg'] at HG
    have HL : Hid (dbX ps = []) := Lib.hid (by rw [dbX, if_neg (by simp [hg'])])
    have HL2 : Hid (dbB ps = false) := Lib.hid (by simp [dbB, hg'])
    rw [HL.out, HL2.out]
    clear hg hg' hl HX
    generalize ps.length = K at *
    go_enter Try.func23, Try.ntmps23
    go_wp2_with fail
    refine (HG.out _ _).mono ?_
    rintro e w1 ⟨rfl, hb1⟩
    obtain ⟨h0, h1⟩ := (show w1.cell? ⟨w.heap.size + 1, 0, none⟩ = some (.slice none 0 0) ∧ w1.frozen? ⟨w.heap.size + 1, 0, none⟩ = false from ⟨(hb1.cell (p := ⟨w.heap.size + 1, 0, none⟩) (by simp)).trans (by go_simp), (hb1.frozen (p := ⟨w.heap.size + 1, 0, none⟩) (by simp)).trans (by go_simp)⟩)
    have h9 : w1.cell? ⟨w.heap.size, 0, none⟩ = some (.slice a K c) := (hb1.cell (p := ⟨w.heap.size, 0, none⟩) (by simp; omega)).trans (by go_simp)
    have hsz : w.heap.size + 1 < w1.heap.size := by have := hb1.size; simp at this; omega
    have hbw : Below w.heap.size w w1 := (((Below.refl _ w).alloc (Nat.le_refl _) (.cells #[.slice a K c] 54)).alloc (by simp) (.cells #[.slice none 0 0] 54)).trans (hb1.mono (by simp; omega))
    have HB1 := Lib.hid hbw
    clear hb1 hbw
    go_wp2_with fail
    refine bodyPost_ret (v := .tuple #[.agg #[.slice none 0 0], .bool false]) (by simp [results, Try.f23, go_sem, h0]) rfl ⟨_, rfl, ⟨Nat.le_refl _, none, 0, rfl, fun h => (h rfl).elim⟩, ?_⟩
    exact HB1.out.setCell (p := ⟨w.heap.size + 1, 0, none⟩) (by simp) _
  case pos =>
    rw [hg] at HG
    by_cases h2 : 2 * ps.length ≤ 8
    case neg =>
      have hg' := hg
      have HL : Hid (dbX ps = []) := Lib.hid (by rw [dbX, if_neg (by simp [hg', h2])])
      have HL2 : Hid (dbB ps = false) := Lib.hid (by simp [dbB, hg', h2])
      rw [HL.out, HL2.out]
      obtain ⟨K, hK⟩ : ∃ K, ps.length = K := ⟨_, rfl⟩
      have hK8 := (omB_len hg).2
      rw [hK] at h2 HG hK8
      rw [hK]
      have hk2 : (8 : Int) < 2 * (K : Int) := by omega
      have hk3 : (K : Int) ≤ 8 := by omega
      have hwk : IntKind.i64.wrap (2 * (K : Int)) = 2 * (K : Int) := IntWalk.i64_in _ (by omega)
      clear hg hg' hl HX h2 hK hK8
      go_enter Try.func23, Try.ntmps23
      go_wp2_with fail
      refine (HG.out _ _).mono ?_
      rintro e w1 ⟨rfl, hb1⟩
      obtain ⟨h0, h1⟩ := (show w1.cell? ⟨w.heap.size + 1, 0, none⟩ = some (.slice none 0 0) ∧ w1.frozen? ⟨w.heap.size + 1, 0, none⟩ = false from ⟨(hb1.cell (p := ⟨w.heap.size + 1, 0, none⟩) (by simp)).trans (by go_simp), (hb1.frozen (p := ⟨w.heap.size + 1, 0, none⟩) (by simp)).trans (by go_simp)⟩)
      have h9 : w1.cell? ⟨w.heap.size, 0, none⟩ = some (.slice a K c) := (hb1.cell (p := ⟨w.heap.size, 0, none⟩) (by simp; omega)).trans (by go_simp)
      have hsz : w.heap.size + 1 < w1.heap.size := by have := hb1.size; simp at this; omega
      have hbw : Below w.heap.size w w1 := (((Below.refl _ w).alloc (Nat.le_refl _) (.cells #[.slice a K c] 54)).alloc (by simp) (.cells #[.slice none 0 0] 54)).trans (hb1.mono (by simp; omega))
      have HB1 := Lib.hid hbw
      clear hb1 hbw
      go_wp2_with fail
      refine bodyPost_ret (v := .tuple #[.agg #[.slice none 0 0], .bool false]) (by simp [results, Try.f23, go_sem, h0]) rfl ⟨_, rfl, ⟨Nat.le_refl _, none, 0, rfl, fun h => (h rfl).elim⟩, ?_⟩
      exact HB1.out.setCell (p := ⟨w.heap.size + 1, 0, none⟩) (by simp) _
    case pos =>
      have HL : Hid (dbX ps = ps ++ ps) := Lib.hid (by rw [dbX, if_pos ⟨hg, h2⟩])
      have HL2 : Hid (dbB ps = true) := Lib.hid (by simp [dbB, hg, h2])
      rw [HL.out, HL2.out]
      obtain ⟨K, hK⟩ : ∃ K, ps.length = K := ⟨_, rfl⟩
      rw [hK] at h2 HX HG
      rw [hK]
      have hk2 : ¬ (8 : Int) < 2 * (K : Int) := by omega
      have hk3 : (K : Int) ≤ 4 := by omega
      have hK0 : 0 < K := by have := (omB_len hg).1; omega
      have hKK := Lib.hid hK
      have hwk : IntKind.i64.wrap (2 * (K : Int)) = 2 * (K : Int) := IntWalk.i64_in _ (by omega)
      clear hg hl
      go_enter Try.func23, Try.ntmps23
      go_wp2_with fail
      refine (HG.out _ _).mono ?_
      rintro e w1 ⟨rfl, hb1⟩
      obtain ⟨h0, h1⟩ := (show w1.cell? ⟨w.heap.size + 1, 0, none⟩ = some (.slice none 0 0) ∧ w1.frozen? ⟨w.heap.size + 1, 0, none⟩ = false from ⟨(hb1.cell (p := ⟨w.heap.size + 1, 0, none⟩) (by simp)).trans (by go_simp), (hb1.frozen (p := ⟨w.heap.size + 1, 0, none⟩) (by simp)).trans (by go_simp)⟩)
      have h2' : w1.cell? ⟨w.heap.size, 0, none⟩ = some (.slice a K c) := (hb1.cell (p := ⟨w.heap.size, 0, none⟩) (by simp; omega)).trans (by go_simp)
      have hbw : Below w.heap.size w w1 := (((Below.refl _ w).alloc (Nat.le_refl _) (.cells #[.slice a K c] 54)).alloc (by simp) (.cells #[.slice none 0 0] 54)).trans (hb1.mono (by simp; omega))
      have hsz : w.heap.size + 1 < w1.heap.size := by have := hb1.size; simp at this; omega
      have HB1 := Lib.hid hbw
      clear hb1 hbw
      obtain ⟨g, rfl, hgl, _⟩ := HX.out 0 hK0
      have HSRC : Hid (∀ W, Below w.heap.size w W → ∀ j u, (ptCells ps)[j]? = some u → W.cell? ((⟨g, 0, none⟩ : Addr).add j) = some u) := Lib.hid (fun W hb => ptCells_src (fun k hk => by
        obtain ⟨g', he, _, q⟩ := HX.out k (by rw [← hKK.out]; exact hk)
        cases he
        exact q.of (hb.block g hgl)))
      obtain ⟨i0, hi, hi0, hi1, hi2⟩ := info_parts infoPt
      have HOW0 : Hid ((w1.alloc (.cells #[] 88)).ownsRow w1.heap.size 88 3 (.slice (some ⟨w1.heap.size, 0, none⟩) 0 0) 0 []) := Lib.hid (by
        have := World.ownsRow_lit (base := w1.heap.size) (e := 88) (size := 3) w1 #[] 0 (Nat.le_refl _) (by unfold maxLen; omega) rfl
        simpa using this)
      have HPL : Hid ((ptCells ps).length = K * 3) := Lib.hid (by rw [ptCells_length, hKK.out])
      have HP1 := Lib.hid (ptCells_one ps)
      have hm1 : 0 + K ≤ maxLen := by unfold maxLen; omega
      have hm2 : K + K ≤ maxLen := by unfold maxLen; omega
      have hne1 : ¬ (w.heap.size = w1.heap.size) := by omega
      have hne2 : ¬ (w1.heap.size = w.heap.size) := by omega
      have hne3 : ¬ (w.heap.size + 1 = w1.heap.size) := by omega
      have hne4 : ¬ (w1.heap.size = w.heap.size + 1) := by omega
      have hl3 : w.heap.size < w1.heap.size := by omega
      have HAL : Hid (Below w1.heap.size w1 (w1.alloc (.cells #[] 88))) := Lib.hid (below_new w1 _)
      clear HG
      go_upto_region 3 with fail
      go_region_law (first
        | (refine step_append_own_at rfl (.tmp 15) (.tmp 17) 52 rfl w1.heap.size 88 i0 (.agg #[.int .i64 0, .int .i64 0, .int .i64 0]) 3 24 Try.underlying52 hi hi0 hi1 hi2 rfl (by decide) (.slice (some ⟨w1.heap.size, 0, none⟩) 0 0) 0 [] (by simp [Act.eval]) (by first | exact HOW0.out | exact HOW0.out.drew) ⟨g, 0, none⟩ K c (ptCells ps) (by simp [Act.eval]) HPL.out (HSRC.out _ (below_up HB1.out (by first | exact HAL.out | exact HAL.out.drew | exact (Below.refl _ _).drew.trans HAL.out | exact ((Below.refl _ _).drew.trans HAL.out).drew))) HP1.out hm1 (by omega) (by simp) ?_; intro v5 w5 hown5 hgrow5 _; have HB5 : Hid (Below w1.heap.size w1 w5) := Lib.hid (grown_below hgrow5 (by first | exact HAL.out | exact HAL.out.drew | exact (Below.refl _ _).drew.trans HAL.out | exact ((Below.refl _ _).drew.trans HAL.out).drew) (fun k e => (World.ownsRow.lt HOW0.out k e).1)); obtain ⟨p5, d5, hv5⟩ := own_formP hown5; subst hv5; have HO5 : Hid (w5.ownsRow w1.heap.size 88 3 (.slice p5 K d5) K (ptCells ps)) := Lib.hid (by simpa using hown5); have e0 := (HB5.out.cell (p := ⟨w.heap.size, 0, none⟩) hl3).trans h2'; clear hown5 hgrow5)
        | (refine step_append_own_at rfl (.tmp 18) (.tmp 20) 52 rfl w1.heap.size 88 i0 (.agg #[.int .i64 0, .int .i64 0, .int .i64 0]) 3 24 Try.underlying52 hi hi0 hi1 hi2 rfl (by decide) (.slice p5 K d5) K (ptCells ps) (by simp [Act.eval]) (by first | exact HO5.out | exact HO5.out.drew) ⟨g, 0, none⟩ K c (ptCells ps) (by simp [Act.eval]) HPL.out (HSRC.out _ (below_up HB1.out (by first | exact HB5.out | exact HB5.out.drew))) HP1.out hm2 (by omega) (by have := HB5.out.size; first | exact this | (simp; omega)) ?_; intro v6 w6 hown6 hgrow6 _; have HO6 := Lib.hid hown6; have HB6 : Hid (Below w1.heap.size w1 w6) := Lib.hid (grown_below hgrow6 (by first | exact HB5.out | exact HB5.out.drew | exact HB5.out.drew.drew) (fun k e => (World.ownsRow.lt HO5.out k e).1)); obtain ⟨p6, d6, hv6⟩ := own_formP hown6; subst hv6; have e1 := (HB6.out.cell (p := ⟨w.heap.size + 1, 0, none⟩) hsz).trans h0; have e2 := (HB6.out.frozen (p := ⟨w.heap.size + 1, 0, none⟩) hsz).trans h1; clear hown6 hgrow6))
      all_goals
        go_wp2_with fail
        have hP : PtsAt w6 w1.heap.size (.slice p6 (K + K) d6) (ps ++ ps) := by
          unfold PtsAt
          rw [ptCells_append, List.length_append, hKK.out]
          exact HO6.out
        have hln : (ps ++ ps).length = K + K := by rw [List.length_append, hKK.out]
        obtain ⟨a9, c9, he9, hp9⟩ := (hP.set (b := w.heap.size + 1) (by omega) (.slice p6 (K + K) d6)).prow
        rw [hln] at he9
        have hc := World.cell?_setCell_same' w6 ⟨w.heap.size + 1, 0, none⟩ (.slice p6 (K + K) d6) (by rw [e1]; rfl)
        cases he9
        refine bodyPost_ret (v := .tuple #[.agg #[.slice p6 (K + K) d6], .bool true]) (by simp [results, Try.f23, go_sem, hc, Act.put]) rfl ⟨_, rfl, ⟨Nat.le_refl _, p6, d6, by rw [hln], hp9.wide (by omega) (Nat.le_refl _)⟩, ?_⟩
        exact (below_up HB1.out HB6.out).setCell (p := ⟨w.heap.size + 1, 0, none⟩) (by simp) _
end Go.Proofs.Ytkikmmnmppikpaa
