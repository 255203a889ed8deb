/-
  'AddClue' of both.
-/
import Derived.Test.YtheailbbnmblnaaDrp
import Derived.Test.YtheailbbnmblnaaLft
import Derived.Deep.RegionLawGrows
import Derived.Laws.AppendOwnNone
namespace Go.Proofs.Ytheailbbnmblnaa
open Go.RowKit
set_option linter.unusedVariables false

/-- Does AddClue succeed? -/
def acB (t p : Int) (ps : List Pt) (q : Pt) : Bool := pzB t p ps && clB q && decide (ps.length ≠ 6)
def acX (t p : Int) (ps : List Pt) (q : Pt) : List Pt := if acB t p ps q = true then ps ++ [q] else []
theorem acX_len (t p : Int) (ps : List Pt) (q : Pt) : (acX t p ps q).length ≤ 1048576 := by
  unfold acX
  split
  · rename_i h
    unfold acB at h
    rw [Bool.and_eq_true, Bool.and_eq_true] at h
    have := (pzB_iff.1 h.1.1).2.1
    simp; omega
  · simp
theorem run_append_zero {P : Program} (w : World) (t ty e : TypeId) (i : TypeInfo) (ht : P.underlying t = some (.slice e)) (hi : P.info? e = some i) (a : Addr) (ao : Option Addr) (c : Nat) :
    (Builtin.append_ #[t, t] ty #[.slice (some a) 0 0, .slice ao 0 c]).run P w = .ok (.slice (some a) 0 0) w := by
  cases ao <;> simp [Builtin.append_, run_underlying ht, sizeOf, typeInfo, hi, Builtin.lenOf, Builtin.firstCells, loadCells, loadCellsFrom, storeCells]
theorem step_append_run {P : Program} {ops : Array Oper} {o : Oper} {a : Act} {w : World} {K : Act → World → Prop} {Q : Exit → Act → World → Prop} {E : Prop} (hgd : o.guard = none) (s x : Operand) (t : TypeId)
    (ho : o.op = .call { callee := .builtin .append, args := #[s, x], argTypes := #[t, t] }) (vs vx : Value) (hs : a.eval s = vs) (hx : a.eval x = vx) (v' : Value) (w' : World) (hr : (Builtin.append_ #[t, t] o.type #[vs, vx]).run P w = .ok v' w') (h : K (a.put o.dst v') w') :
    if Region.wanted o (yielded ops a.tmps) = true then Oper.wp P o a w K Q else E := by
  rw [if_pos (by simp [Region.wanted, hgd])]
  exact Lib.wp_append_run w s x t t ho vs vx hs hx v' w' hr h
theorem step_append_src {P : Program} {ops : Array Oper} {o : Oper} {a : Act} {w : World} {K : Act → World → Prop} {Q : Exit → Act → World → Prop} {E : Prop} (hgd : o.guard = none) (s x : Operand) (t : TypeId)
    (ho : o.op = .call { callee := .builtin .append, args := #[s, x], argTypes := #[t, t] })
    (base : Nat) (e : TypeId) (i : TypeInfo) (z : Value) (size bytes : Nat) (ht : P.underlying t = some (.slice e)) (hi : P.info? e = some i) (hz : i.zero = some z)
    (hsize : i.size = size) (hby : i.bytes = bytes) (hzs : z.cells.size = size) (hsz : 0 < size)
    (G : Nat) (hs : a.eval s = .slice (some ⟨G, 0, none⟩) 0 0) (hown : w.ownsRow base e size (.slice (some ⟨G, 0, none⟩) 0 0) 0 [])
    (ao : Option Addr) (m c : Nat) (news : List Value) (hx : a.eval x = .slice ao m c) (hl : news.length = m * size) (hsome : 0 < m → ∃ ad, ao = some ad) (hnews : ∀ ad, ao = some ad → ∀ j u, news[j]? = some u → w.cell? (ad.add j) = some u) (h1 : ∀ u ∈ news, u.oneCell' = true)
    (h63 : m ≤ maxLen) (hbytes : m * bytes ≤ 140737488355328) (hbase : base ≤ w.heap.size)
    (h : ∀ v' w', w'.ownsRow base e size v' m news → w.grownBy w' (some G) → K (a.put o.dst v') w') :
    if Region.wanted o (yielded ops a.tmps) = true then Oper.wp P o a w K Q else E := by
  rcases Nat.eq_zero_or_pos m with rfl | hm
  · obtain rfl : news = [] := List.eq_nil_of_length_eq_zero (by simpa using hl)
    exact step_append_run hgd s x t ho _ _ hs hx _ _ (run_append_zero w t o.type e i ht hi ⟨G, 0, none⟩ ao c) (h _ _ hown ⟨rfl, rfl, rfl, Nat.le_refl _, fun _ _ _ => rfl⟩)
  · obtain ⟨ad, rfl⟩ := hsome hm
    exact step_append_own_at hgd s x t ho base e i z size bytes ht hi hz hsize hby hzs hsz _ 0 [] hs hown ad m c news hx hl (hnews ad rfl) h1 (by simpa using h63) (by simpa using hbytes) hbase (fun v' w' h2 h3 _ => h v' w' (by simpa using h2) h3)
theorem blk_add (g : Nat) (j : Nat) : ((⟨g, 0, none⟩ : Addr).add j).block = g := by
  unfold Addr.add; split <;> rfl
theorem lit_own (w : World) (B : Nat) (hB : B ≤ w.heap.size) : (w.alloc (.cells #[] 25)).ownsRow B 25 3 (.slice (some ⟨w.heap.size, 0, none⟩) 0 0) 0 [] := by
  have := World.ownsRow_lit (base := B) (e := 25) (size := 3) w #[] 0 hB (by unfold maxLen; omega) rfl
  simpa using this
theorem lit_ownG (w : World) (B G : Nat) (hG : w.heap.size = G) (hB : B ≤ w.heap.size) : (w.alloc (.cells #[] 25)).ownsRow B 25 3 (.slice (some ⟨G, 0, none⟩) 0 0) 0 [] := by
  subst hG
  exact lit_own w B hB
theorem three_newC (w : World) (x y z : Value) (T : TypeId) {s : Nat} (hs : w.heap.size = s) {j : Nat} {u : Value} (h : [x, y, z][j]? = some u) : (w.alloc (.cells #[x, y, z] T)).cell? ((⟨s, 0, none⟩ : Addr).add j) = some u := three_new w x y z T hs h

set_option maxRecDepth 100000 in
set_option maxHeartbeats 8000000 in
theorem sAdd_bad (t p : Int) (ps : List Pt) (ck ca cb : Int) (v : Value) (w : World) (hl : ps.length ≤ 1048576) (h : PuzIn w v t p ps) (hg : pzB t p ps = false) :
    Calls Try.prog 43 #[v, .agg #[.int .i64 ck, .int .i64 ca, .int .i64 cb]] w (RetPuz (ifT (acB t p ps (ck, ca, cb)) t) (ifT (acB t p ps (ck, ca, cb)) p) (acX t p ps (ck, ca, cb)) (acB t p ps (ck, ca, cb)) w) := by
  have HG := Lib.hid (fun W (hb : Below w.heap.size w W) => pzGood_any t p ps v W hl (h.kept hb))
  have HC := Lib.hid (fun W => pzClue_any ck ca cb W)
  obtain ⟨a, c, rfl, hcap, hx⟩ := h.cl
  clear h
  obtain ⟨K, hK⟩ : ∃ K, ps.length = K := ⟨_, rfl⟩
  have hK2 : (K : Int) ≤ 1048576 := by omega
  have HB0 : Hid (Below w.heap.size w (((w.alloc (.cells #[.int .i64 t, .int .i64 p, .slice a K c] 38)).alloc (.cells #[.int .i64 ck, .int .i64 ca, .int .i64 cb] 25)).alloc (.cells #[.int .i64 0, .int .i64 0, .slice none 0 0] 38))) := Lib.hid (((below_new w _).alloc (by simp) _).alloc (by simp; omega) _)
  have B0 : Hid (Bz (((w.alloc (.cells #[.int .i64 t, .int .i64 p, .slice a K c] 38)).alloc (.cells #[.int .i64 ck, .int .i64 ca, .int .i64 cb] 25)).alloc (.cells #[.int .i64 0, .int .i64 0, .slice none 0 0] 38)) w.heap.size t p (.slice a K c)) := Lib.hid (((Bz.new _ _ _ _ _).grow _).grow _)
  have Q0 : Hid (PtCell (((w.alloc (.cells #[.int .i64 t, .int .i64 p, .slice a K c] 38)).alloc (.cells #[.int .i64 ck, .int .i64 ca, .int .i64 cb] 25)).alloc (.cells #[.int .i64 0, .int .i64 0, .slice none 0 0] 38)) (w.heap.size + 1) 0 (ck, ca, cb) ∧ w.heap.size + 1 < (((w.alloc (.cells #[.int .i64 t, .int .i64 p, .slice a K c] 38)).alloc (.cells #[.int .i64 ck, .int .i64 ca, .int .i64 cb] 25)).alloc (.cells #[.int .i64 0, .int .i64 0, .slice none 0 0] 38)).heap.size) := Lib.hid ⟨⟨by go_simp, by go_simp, by go_simp⟩, by simp⟩
  have R0 : Hid (BzF (((w.alloc (.cells #[.int .i64 t, .int .i64 p, .slice a K c] 38)).alloc (.cells #[.int .i64 ck, .int .i64 ca, .int .i64 cb] 25)).alloc (.cells #[.int .i64 0, .int .i64 0, .slice none 0 0] 38)) (w.heap.size + 1 + 1) 0 0 (.slice none 0 0)) := Lib.hid (BzF.new _ _ _ _ _ (by simp))
  have HD : Hid (acB t p ps (ck, ca, cb) = (pzB t p ps && clB (ck, ca, cb) && decide (K ≠ 6))) := Lib.hid (by unfold acB; rw [hK])
  have HX : Hid (acX t p ps (ck, ca, cb) = if acB t p ps (ck, ca, cb) = true then ps ++ [(ck, ca, cb)] else []) := Lib.hid rfl
  have HF : Hid (acB t p ps (ck, ca, cb) = false) := Lib.hid (by rw [HD.out, hg]; rfl)
  have HXF : Hid (acX t p ps (ck, ca, cb) = []) := Lib.hid (by rw [HX.out, HF.out]; rfl)
  rw [HXF.out, HF.out]
  rw [hg] at HG
  rw [hK] at HG ⊢
  clear hx hcap hl hK HD HX hg
  go_enter Try.func43, Try.ntmps43
  go_wp2_with (first | (go_at_call 52; refine (HG.out _ HB0.out).mono ?_; rintro e w1 ⟨rfl, hb1⟩; have B1 := Lib.hid (B0.out.kept hb1); have Q1 := Lib.hid (And.intro (Q0.out.1.of (hb1.block _ Q0.out.2)) (Nat.lt_of_lt_of_le Q0.out.2 hb1.size)); have R1 := Lib.hid (R0.out.kept hb1); have HB1 := Lib.hid (HB0.out.trans (hb1.mono HB0.out.size)); clear hb1; obtain ⟨⟨p0, p1, p2⟩, p3⟩ := B1.out; obtain ⟨⟨q0, q1, q2⟩, q3⟩ := Q1.out; dsimp only at q0 q1 q2; obtain ⟨r0, r1, r2, f0, f1, f2⟩ := R1.out.cells) | (go_at_call 49; refine (HC.out _).mono ?_; rintro e w2 ⟨rfl, hb2⟩; have B2 := Lib.hid (B1.out.kept hb2); have Q2 := Lib.hid (And.intro (Q1.out.1.of (hb2.block _ Q1.out.2)) (Nat.lt_of_lt_of_le Q1.out.2 hb2.size)); have R2 := Lib.hid (R1.out.kept hb2); have HB2 := Lib.hid (HB1.out.trans (hb2.mono HB1.out.size)); clear hb2 p0 p1 p2 p3 q0 q1 q2 q3 r0 r1 r2 f0 f1 f2; obtain ⟨⟨p0, p1, p2⟩, p3⟩ := B2.out; obtain ⟨⟨q0, q1, q2⟩, q3⟩ := Q2.out; dsimp only at q0 q1 q2; obtain ⟨r0, r1, r2, f0, f1, f2⟩ := R2.out.cells))
  obtain ⟨c0, c1, c2⟩ := put3_cells R1.out 0 0 (.slice none 0 0)
  unfold put3 at c0 c1 c2
  refine bodyPost_ret (v := .tuple #[.agg #[.int .i64 0, .int .i64 0, .slice none 0 0], .bool false]) (by simp [results, Try.f43, go_sem, c0, c1, c2]) rfl ⟨_, rfl, ?_, ?_⟩
  · exact (puz_none HB1.out (by omega)).1
  · exact (puz_none HB1.out (by omega)).2

set_option maxRecDepth 100000 in
set_option maxHeartbeats 8000000 in
theorem sAdd_noc (t p : Int) (ps : List Pt) (ck ca cb : Int) (v : Value) (w : World) (hl : ps.length ≤ 1048576) (h : PuzIn w v t p ps) (hg : pzB t p ps = true) (hc : clB (ck, ca, cb) = false) :
    Calls Try.prog 43 #[v, .agg #[.int .i64 ck, .int .i64 ca, .int .i64 cb]] w (RetPuz (ifT (acB t p ps (ck, ca, cb)) t) (ifT (acB t p ps (ck, ca, cb)) p) (acX t p ps (ck, ca, cb)) (acB t p ps (ck, ca, cb)) w) := by
  have HG := Lib.hid (fun W (hb : Below w.heap.size w W) => pzGood_any t p ps v W hl (h.kept hb))
  have HC := Lib.hid (fun W => pzClue_any ck ca cb W)
  obtain ⟨a, c, rfl, hcap, hx⟩ := h.cl
  clear h
  obtain ⟨K, hK⟩ : ∃ K, ps.length = K := ⟨_, rfl⟩
  have hK2 : (K : Int) ≤ 1048576 := by omega
  have HB0 : Hid (Below w.heap.size w (((w.alloc (.cells #[.int .i64 t, .int .i64 p, .slice a K c] 38)).alloc (.cells #[.int .i64 ck, .int .i64 ca, .int .i64 cb] 25)).alloc (.cells #[.int .i64 0, .int .i64 0, .slice none 0 0] 38))) := Lib.hid (((below_new w _).alloc (by simp) _).alloc (by simp; omega) _)
  have B0 : Hid (Bz (((w.alloc (.cells #[.int .i64 t, .int .i64 p, .slice a K c] 38)).alloc (.cells #[.int .i64 ck, .int .i64 ca, .int .i64 cb] 25)).alloc (.cells #[.int .i64 0, .int .i64 0, .slice none 0 0] 38)) w.heap.size t p (.slice a K c)) := Lib.hid (((Bz.new _ _ _ _ _).grow _).grow _)
  have Q0 : Hid (PtCell (((w.alloc (.cells #[.int .i64 t, .int .i64 p, .slice a K c] 38)).alloc (.cells #[.int .i64 ck, .int .i64 ca, .int .i64 cb] 25)).alloc (.cells #[.int .i64 0, .int .i64 0, .slice none 0 0] 38)) (w.heap.size + 1) 0 (ck, ca, cb) ∧ w.heap.size + 1 < (((w.alloc (.cells #[.int .i64 t, .int .i64 p, .slice a K c] 38)).alloc (.cells #[.int .i64 ck, .int .i64 ca, .int .i64 cb] 25)).alloc (.cells #[.int .i64 0, .int .i64 0, .slice none 0 0] 38)).heap.size) := Lib.hid ⟨⟨by go_simp, by go_simp, by go_simp⟩, by simp⟩
  have R0 : Hid (BzF (((w.alloc (.cells #[.int .i64 t, .int .i64 p, .slice a K c] 38)).alloc (.cells #[.int .i64 ck, .int .i64 ca, .int .i64 cb] 25)).alloc (.cells #[.int .i64 0, .int .i64 0, .slice none 0 0] 38)) (w.heap.size + 1 + 1) 0 0 (.slice none 0 0)) := Lib.hid (BzF.new _ _ _ _ _ (by simp))
  have HD : Hid (acB t p ps (ck, ca, cb) = (pzB t p ps && clB (ck, ca, cb) && decide (K ≠ 6))) := Lib.hid (by unfold acB; rw [hK])
  have HX : Hid (acX t p ps (ck, ca, cb) = if acB t p ps (ck, ca, cb) = true then ps ++ [(ck, ca, cb)] else []) := Lib.hid rfl
  have HF : Hid (acB t p ps (ck, ca, cb) = false) := Lib.hid (by rw [HD.out, hg, hc]; rfl)
  have HXF : Hid (acX t p ps (ck, ca, cb) = []) := Lib.hid (by rw [HX.out, HF.out]; rfl)
  rw [HXF.out, HF.out]
  rw [hg] at HG
  rw [hc] at HC
  rw [hK] at HG ⊢
  clear hx hcap hl hK HD HX hg hc
  go_enter Try.func43, Try.ntmps43
  go_wp2_with (first | (go_at_call 52; refine (HG.out _ HB0.out).mono ?_; rintro e w1 ⟨rfl, hb1⟩; have B1 := Lib.hid (B0.out.kept hb1); have Q1 := Lib.hid (And.intro (Q0.out.1.of (hb1.block _ Q0.out.2)) (Nat.lt_of_lt_of_le Q0.out.2 hb1.size)); have R1 := Lib.hid (R0.out.kept hb1); have HB1 := Lib.hid (HB0.out.trans (hb1.mono HB0.out.size)); clear hb1; obtain ⟨⟨p0, p1, p2⟩, p3⟩ := B1.out; obtain ⟨⟨q0, q1, q2⟩, q3⟩ := Q1.out; dsimp only at q0 q1 q2; obtain ⟨r0, r1, r2, f0, f1, f2⟩ := R1.out.cells) | (go_at_call 49; refine (HC.out _).mono ?_; rintro e w2 ⟨rfl, hb2⟩; have B2 := Lib.hid (B1.out.kept hb2); have Q2 := Lib.hid (And.intro (Q1.out.1.of (hb2.block _ Q1.out.2)) (Nat.lt_of_lt_of_le Q1.out.2 hb2.size)); have R2 := Lib.hid (R1.out.kept hb2); have HB2 := Lib.hid (HB1.out.trans (hb2.mono HB1.out.size)); clear hb2 p0 p1 p2 p3 q0 q1 q2 q3 r0 r1 r2 f0 f1 f2; obtain ⟨⟨p0, p1, p2⟩, p3⟩ := B2.out; obtain ⟨⟨q0, q1, q2⟩, q3⟩ := Q2.out; dsimp only at q0 q1 q2; obtain ⟨r0, r1, r2, f0, f1, f2⟩ := R2.out.cells))
  obtain ⟨c0, c1, c2⟩ := put3_cells R2.out 0 0 (.slice none 0 0)
  unfold put3 at c0 c1 c2
  refine bodyPost_ret (v := .tuple #[.agg #[.int .i64 0, .int .i64 0, .slice none 0 0], .bool false]) (by simp [results, Try.f43, go_sem, c0, c1, c2]) rfl ⟨_, rfl, ?_, ?_⟩
  · exact (puz_none HB2.out (by omega)).1
  · exact (puz_none HB2.out (by omega)).2

set_option maxRecDepth 100000 in
set_option maxHeartbeats 8000000 in
theorem sAdd_six (t p : Int) (ps : List Pt) (ck ca cb : Int) (v : Value) (w : World) (hl : ps.length ≤ 1048576) (h : PuzIn w v t p ps) (hg : pzB t p ps = true) (hc : clB (ck, ca, cb) = true) (h6 : ps.length = 6) :
    Calls Try.prog 43 #[v, .agg #[.int .i64 ck, .int .i64 ca, .int .i64 cb]] w (RetPuz (ifT (acB t p ps (ck, ca, cb)) t) (ifT (acB t p ps (ck, ca, cb)) p) (acX t p ps (ck, ca, cb)) (acB t p ps (ck, ca, cb)) w) := by
  have HG := Lib.hid (fun W (hb : Below w.heap.size w W) => pzGood_any t p ps v W hl (h.kept hb))
  have HC := Lib.hid (fun W => pzClue_any ck ca cb W)
  obtain ⟨a, c, rfl, hcap, hx⟩ := h.cl
  clear h
  obtain ⟨K, hK⟩ : ∃ K, ps.length = K := ⟨_, rfl⟩
  have hK2 : (K : Int) ≤ 1048576 := by omega
  have HB0 : Hid (Below w.heap.size w (((w.alloc (.cells #[.int .i64 t, .int .i64 p, .slice a K c] 38)).alloc (.cells #[.int .i64 ck, .int .i64 ca, .int .i64 cb] 25)).alloc (.cells #[.int .i64 0, .int .i64 0, .slice none 0 0] 38))) := Lib.hid (((below_new w _).alloc (by simp) _).alloc (by simp; omega) _)
  have B0 : Hid (Bz (((w.alloc (.cells #[.int .i64 t, .int .i64 p, .slice a K c] 38)).alloc (.cells #[.int .i64 ck, .int .i64 ca, .int .i64 cb] 25)).alloc (.cells #[.int .i64 0, .int .i64 0, .slice none 0 0] 38)) w.heap.size t p (.slice a K c)) := Lib.hid (((Bz.new _ _ _ _ _).grow _).grow _)
  have Q0 : Hid (PtCell (((w.alloc (.cells #[.int .i64 t, .int .i64 p, .slice a K c] 38)).alloc (.cells #[.int .i64 ck, .int .i64 ca, .int .i64 cb] 25)).alloc (.cells #[.int .i64 0, .int .i64 0, .slice none 0 0] 38)) (w.heap.size + 1) 0 (ck, ca, cb) ∧ w.heap.size + 1 < (((w.alloc (.cells #[.int .i64 t, .int .i64 p, .slice a K c] 38)).alloc (.cells #[.int .i64 ck, .int .i64 ca, .int .i64 cb] 25)).alloc (.cells #[.int .i64 0, .int .i64 0, .slice none 0 0] 38)).heap.size) := Lib.hid ⟨⟨by go_simp, by go_simp, by go_simp⟩, by simp⟩
  have R0 : Hid (BzF (((w.alloc (.cells #[.int .i64 t, .int .i64 p, .slice a K c] 38)).alloc (.cells #[.int .i64 ck, .int .i64 ca, .int .i64 cb] 25)).alloc (.cells #[.int .i64 0, .int .i64 0, .slice none 0 0] 38)) (w.heap.size + 1 + 1) 0 0 (.slice none 0 0)) := Lib.hid (BzF.new _ _ _ _ _ (by simp))
  have HD : Hid (acB t p ps (ck, ca, cb) = (pzB t p ps && clB (ck, ca, cb) && decide (K ≠ 6))) := Lib.hid (by unfold acB; rw [hK])
  have HX : Hid (acX t p ps (ck, ca, cb) = if acB t p ps (ck, ca, cb) = true then ps ++ [(ck, ca, cb)] else []) := Lib.hid rfl
  have HF : Hid (acB t p ps (ck, ca, cb) = false) := Lib.hid (by rw [HD.out, hg, hc]; simp; omega)
  have HXF : Hid (acX t p ps (ck, ca, cb) = []) := Lib.hid (by rw [HX.out, HF.out]; rfl)
  rw [HXF.out, HF.out]
  rw [hg] at HG
  rw [hc] at HC
  have hk6 : ((K : Int) == 6) = true := by rw [beq_iff_eq]; omega
  rw [hK] at HG ⊢
  clear hx hcap hl hK HD HX hg hc h6
  go_enter Try.func43, Try.ntmps43
  go_wp2_with (first | (go_at_call 52; refine (HG.out _ HB0.out).mono ?_; rintro e w1 ⟨rfl, hb1⟩; have B1 := Lib.hid (B0.out.kept hb1); have Q1 := Lib.hid (And.intro (Q0.out.1.of (hb1.block _ Q0.out.2)) (Nat.lt_of_lt_of_le Q0.out.2 hb1.size)); have R1 := Lib.hid (R0.out.kept hb1); have HB1 := Lib.hid (HB0.out.trans (hb1.mono HB0.out.size)); clear hb1; obtain ⟨⟨p0, p1, p2⟩, p3⟩ := B1.out; obtain ⟨⟨q0, q1, q2⟩, q3⟩ := Q1.out; dsimp only at q0 q1 q2; obtain ⟨r0, r1, r2, f0, f1, f2⟩ := R1.out.cells) | (go_at_call 49; refine (HC.out _).mono ?_; rintro e w2 ⟨rfl, hb2⟩; have B2 := Lib.hid (B1.out.kept hb2); have Q2 := Lib.hid (And.intro (Q1.out.1.of (hb2.block _ Q1.out.2)) (Nat.lt_of_lt_of_le Q1.out.2 hb2.size)); have R2 := Lib.hid (R1.out.kept hb2); have HB2 := Lib.hid (HB1.out.trans (hb2.mono HB1.out.size)); clear hb2 p0 p1 p2 p3 q0 q1 q2 q3 r0 r1 r2 f0 f1 f2; obtain ⟨⟨p0, p1, p2⟩, p3⟩ := B2.out; obtain ⟨⟨q0, q1, q2⟩, q3⟩ := Q2.out; dsimp only at q0 q1 q2; obtain ⟨r0, r1, r2, f0, f1, f2⟩ := R2.out.cells))
  obtain ⟨c0, c1, c2⟩ := put3_cells R2.out 0 0 (.slice none 0 0)
  unfold put3 at c0 c1 c2
  refine bodyPost_ret (v := .tuple #[.agg #[.int .i64 0, .int .i64 0, .slice none 0 0], .bool false]) (by simp [results, Try.f43, go_sem, c0, c1, c2]) rfl ⟨_, rfl, ?_, ?_⟩
  · exact (puz_none HB2.out (by omega)).1
  · exact (puz_none HB2.out (by omega)).2

set_option maxRecDepth 100000 in
set_option maxHeartbeats 8000000 in
theorem iAdd_bad (t p : Int) (ps : List Pt) (ck ca cb : Int) (v : Value) (w : World) (hl : ps.length ≤ 1048576) (h : PuzIn w v t p ps) (hg : pzB t p ps = false) :
    Calls Try.prog 44 #[v, .agg #[.int .i64 ck, .int .i64 ca, .int .i64 cb]] w (RetPuz (ifT (acB t p ps (ck, ca, cb)) t) (ifT (acB t p ps (ck, ca, cb)) p) (acX t p ps (ck, ca, cb)) (acB t p ps (ck, ca, cb)) w) := by
  have HG := Lib.hid (fun W (hb : Below w.heap.size w W) => isPuzzle_any t p ps v W hl (h.kept hb))
  have HC := Lib.hid (fun W => isClue_any ck ca cb W)
  obtain ⟨a, c, rfl, hcap, hx⟩ := h.cl
  clear h
  obtain ⟨K, hK⟩ : ∃ K, ps.length = K := ⟨_, rfl⟩
  have hK2 : (K : Int) ≤ 1048576 := by omega
  have HB0 : Hid (Below w.heap.size w (((w.alloc (.cells #[.int .i64 t, .int .i64 p, .slice a K c] 38)).alloc (.cells #[.int .i64 ck, .int .i64 ca, .int .i64 cb] 25)).alloc (.cells #[.int .i64 0, .int .i64 0, .slice none 0 0] 38))) := Lib.hid (((below_new w _).alloc (by simp) _).alloc (by simp; omega) _)
  have B0 : Hid (Bz (((w.alloc (.cells #[.int .i64 t, .int .i64 p, .slice a K c] 38)).alloc (.cells #[.int .i64 ck, .int .i64 ca, .int .i64 cb] 25)).alloc (.cells #[.int .i64 0, .int .i64 0, .slice none 0 0] 38)) w.heap.size t p (.slice a K c)) := Lib.hid (((Bz.new _ _ _ _ _).grow _).grow _)
  have Q0 : Hid (PtCell (((w.alloc (.cells #[.int .i64 t, .int .i64 p, .slice a K c] 38)).alloc (.cells #[.int .i64 ck, .int .i64 ca, .int .i64 cb] 25)).alloc (.cells #[.int .i64 0, .int .i64 0, .slice none 0 0] 38)) (w.heap.size + 1) 0 (ck, ca, cb) ∧ w.heap.size + 1 < (((w.alloc (.cells #[.int .i64 t, .int .i64 p, .slice a K c] 38)).alloc (.cells #[.int .i64 ck, .int .i64 ca, .int .i64 cb] 25)).alloc (.cells #[.int .i64 0, .int .i64 0, .slice none 0 0] 38)).heap.size) := Lib.hid ⟨⟨by go_simp, by go_simp, by go_simp⟩, by simp⟩
  have R0 : Hid (BzF (((w.alloc (.cells #[.int .i64 t, .int .i64 p, .slice a K c] 38)).alloc (.cells #[.int .i64 ck, .int .i64 ca, .int .i64 cb] 25)).alloc (.cells #[.int .i64 0, .int .i64 0, .slice none 0 0] 38)) (w.heap.size + 1 + 1) 0 0 (.slice none 0 0)) := Lib.hid (BzF.new _ _ _ _ _ (by simp))
  have HD : Hid (acB t p ps (ck, ca, cb) = (pzB t p ps && clB (ck, ca, cb) && decide (K ≠ 6))) := Lib.hid (by unfold acB; rw [hK])
  have HX : Hid (acX t p ps (ck, ca, cb) = if acB t p ps (ck, ca, cb) = true then ps ++ [(ck, ca, cb)] else []) := Lib.hid rfl
  have HF : Hid (acB t p ps (ck, ca, cb) = false) := Lib.hid (by rw [HD.out, hg]; rfl)
  have HXF : Hid (acX t p ps (ck, ca, cb) = []) := Lib.hid (by rw [HX.out, HF.out]; rfl)
  rw [HXF.out, HF.out]
  rw [hg] at HG
  rw [hK] at HG ⊢
  clear hx hcap hl hK HD HX hg
  go_enter Try.func44, Try.ntmps44
  go_wp2_with (first | (go_at_call 21; refine (HG.out _ HB0.out).mono ?_; rintro e w1 ⟨rfl, hb1⟩; have B1 := Lib.hid (B0.out.kept hb1); have Q1 := Lib.hid (And.intro (Q0.out.1.of (hb1.block _ Q0.out.2)) (Nat.lt_of_lt_of_le Q0.out.2 hb1.size)); have R1 := Lib.hid (R0.out.kept hb1); have HB1 := Lib.hid (HB0.out.trans (hb1.mono HB0.out.size)); clear hb1; obtain ⟨⟨p0, p1, p2⟩, p3⟩ := B1.out; obtain ⟨⟨q0, q1, q2⟩, q3⟩ := Q1.out; dsimp only at q0 q1 q2; obtain ⟨r0, r1, r2, f0, f1, f2⟩ := R1.out.cells) | (go_at_call 17; refine (HC.out _).mono ?_; rintro e w2 ⟨rfl, hb2⟩; have B2 := Lib.hid (B1.out.kept hb2); have Q2 := Lib.hid (And.intro (Q1.out.1.of (hb2.block _ Q1.out.2)) (Nat.lt_of_lt_of_le Q1.out.2 hb2.size)); have R2 := Lib.hid (R1.out.kept hb2); have HB2 := Lib.hid (HB1.out.trans (hb2.mono HB1.out.size)); clear hb2 p0 p1 p2 p3 q0 q1 q2 q3 r0 r1 r2 f0 f1 f2; obtain ⟨⟨p0, p1, p2⟩, p3⟩ := B2.out; obtain ⟨⟨q0, q1, q2⟩, q3⟩ := Q2.out; dsimp only at q0 q1 q2; obtain ⟨r0, r1, r2, f0, f1, f2⟩ := R2.out.cells))
  obtain ⟨c0, c1, c2⟩ := put3_cells R1.out 0 0 (.slice none 0 0)
  unfold put3 at c0 c1 c2
  refine bodyPost_ret (v := .tuple #[.agg #[.int .i64 0, .int .i64 0, .slice none 0 0], .bool false]) (by simp [results, Try.f44, go_sem, c0, c1, c2]) rfl ⟨_, rfl, ?_, ?_⟩
  · exact (puz_none HB1.out (by omega)).1
  · exact (puz_none HB1.out (by omega)).2

set_option maxRecDepth 100000 in
set_option maxHeartbeats 8000000 in
theorem iAdd_noc (t p : Int) (ps : List Pt) (ck ca cb : Int) (v : Value) (w : World) (hl : ps.length ≤ 1048576) (h : PuzIn w v t p ps) (hg : pzB t p ps = true) (hc : clB (ck, ca, cb) = false) :
    Calls Try.prog 44 #[v, .agg #[.int .i64 ck, .int .i64 ca, .int .i64 cb]] w (RetPuz (ifT (acB t p ps (ck, ca, cb)) t) (ifT (acB t p ps (ck, ca, cb)) p) (acX t p ps (ck, ca, cb)) (acB t p ps (ck, ca, cb)) w) := by
  have HG := Lib.hid (fun W (hb : Below w.heap.size w W) => isPuzzle_any t p ps v W hl (h.kept hb))
  have HC := Lib.hid (fun W => isClue_any ck ca cb W)
  obtain ⟨a, c, rfl, hcap, hx⟩ := h.cl
  clear h
  obtain ⟨K, hK⟩ : ∃ K, ps.length = K := ⟨_, rfl⟩
  have hK2 : (K : Int) ≤ 1048576 := by omega
  have HB0 : Hid (Below w.heap.size w (((w.alloc (.cells #[.int .i64 t, .int .i64 p, .slice a K c] 38)).alloc (.cells #[.int .i64 ck, .int .i64 ca, .int .i64 cb] 25)).alloc (.cells #[.int .i64 0, .int .i64 0, .slice none 0 0] 38))) := Lib.hid (((below_new w _).alloc (by simp) _).alloc (by simp; omega) _)
  have B0 : Hid (Bz (((w.alloc (.cells #[.int .i64 t, .int .i64 p, .slice a K c] 38)).alloc (.cells #[.int .i64 ck, .int .i64 ca, .int .i64 cb] 25)).alloc (.cells #[.int .i64 0, .int .i64 0, .slice none 0 0] 38)) w.heap.size t p (.slice a K c)) := Lib.hid (((Bz.new _ _ _ _ _).grow _).grow _)
  have Q0 : Hid (PtCell (((w.alloc (.cells #[.int .i64 t, .int .i64 p, .slice a K c] 38)).alloc (.cells #[.int .i64 ck, .int .i64 ca, .int .i64 cb] 25)).alloc (.cells #[.int .i64 0, .int .i64 0, .slice none 0 0] 38)) (w.heap.size + 1) 0 (ck, ca, cb) ∧ w.heap.size + 1 < (((w.alloc (.cells #[.int .i64 t, .int .i64 p, .slice a K c] 38)).alloc (.cells #[.int .i64 ck, .int .i64 ca, .int .i64 cb] 25)).alloc (.cells #[.int .i64 0, .int .i64 0, .slice none 0 0] 38)).heap.size) := Lib.hid ⟨⟨by go_simp, by go_simp, by go_simp⟩, by simp⟩
  have R0 : Hid (BzF (((w.alloc (.cells #[.int .i64 t, .int .i64 p, .slice a K c] 38)).alloc (.cells #[.int .i64 ck, .int .i64 ca, .int .i64 cb] 25)).alloc (.cells #[.int .i64 0, .int .i64 0, .slice none 0 0] 38)) (w.heap.size + 1 + 1) 0 0 (.slice none 0 0)) := Lib.hid (BzF.new _ _ _ _ _ (by simp))
  have HD : Hid (acB t p ps (ck, ca, cb) = (pzB t p ps && clB (ck, ca, cb) && decide (K ≠ 6))) := Lib.hid (by unfold acB; rw [hK])
  have HX : Hid (acX t p ps (ck, ca, cb) = if acB t p ps (ck, ca, cb) = true then ps ++ [(ck, ca, cb)] else []) := Lib.hid rfl
  have HF : Hid (acB t p ps (ck, ca, cb) = false) := Lib.hid (by rw [HD.out, hg, hc]; rfl)
  have HXF : Hid (acX t p ps (ck, ca, cb) = []) := Lib.hid (by rw [HX.out, HF.out]; rfl)
  rw [HXF.out, HF.out]
  rw [hg] at HG
  rw [hc] at HC
  rw [hK] at HG ⊢
  clear hx hcap hl hK HD HX hg hc
  go_enter Try.func44, Try.ntmps44
  go_wp2_with (first | (go_at_call 21; refine (HG.out _ HB0.out).mono ?_; rintro e w1 ⟨rfl, hb1⟩; have B1 := Lib.hid (B0.out.kept hb1); have Q1 := Lib.hid (And.intro (Q0.out.1.of (hb1.block _ Q0.out.2)) (Nat.lt_of_lt_of_le Q0.out.2 hb1.size)); have R1 := Lib.hid (R0.out.kept hb1); have HB1 := Lib.hid (HB0.out.trans (hb1.mono HB0.out.size)); clear hb1; obtain ⟨⟨p0, p1, p2⟩, p3⟩ := B1.out; obtain ⟨⟨q0, q1, q2⟩, q3⟩ := Q1.out; dsimp only at q0 q1 q2; obtain ⟨r0, r1, r2, f0, f1, f2⟩ := R1.out.cells) | (go_at_call 17; refine (HC.out _).mono ?_; rintro e w2 ⟨rfl, hb2⟩; have B2 := Lib.hid (B1.out.kept hb2); have Q2 := Lib.hid (And.intro (Q1.out.1.of (hb2.block _ Q1.out.2)) (Nat.lt_of_lt_of_le Q1.out.2 hb2.size)); have R2 := Lib.hid (R1.out.kept hb2); have HB2 := Lib.hid (HB1.out.trans (hb2.mono HB1.out.size)); clear hb2 p0 p1 p2 p3 q0 q1 q2 q3 r0 r1 r2 f0 f1 f2; obtain ⟨⟨p0, p1, p2⟩, p3⟩ := B2.out; obtain ⟨⟨q0, q1, q2⟩, q3⟩ := Q2.out; dsimp only at q0 q1 q2; obtain ⟨r0, r1, r2, f0, f1, f2⟩ := R2.out.cells))
  obtain ⟨c0, c1, c2⟩ := put3_cells R2.out 0 0 (.slice none 0 0)
  unfold put3 at c0 c1 c2
  refine bodyPost_ret (v := .tuple #[.agg #[.int .i64 0, .int .i64 0, .slice none 0 0], .bool false]) (by simp [results, Try.f44, go_sem, c0, c1, c2]) rfl ⟨_, rfl, ?_, ?_⟩
  · exact (puz_none HB2.out (by omega)).1
  · exact (puz_none HB2.out (by omega)).2

set_option maxRecDepth 100000 in
set_option maxHeartbeats 8000000 in
theorem iAdd_six (t p : Int) (ps : List Pt) (ck ca cb : Int) (v : Value) (w : World) (hl : ps.length ≤ 1048576) (h : PuzIn w v t p ps) (hg : pzB t p ps = true) (hc : clB (ck, ca, cb) = true) (h6 : ps.length = 6) :
    Calls Try.prog 44 #[v, .agg #[.int .i64 ck, .int .i64 ca, .int .i64 cb]] w (RetPuz (ifT (acB t p ps (ck, ca, cb)) t) (ifT (acB t p ps (ck, ca, cb)) p) (acX t p ps (ck, ca, cb)) (acB t p ps (ck, ca, cb)) w) := by
  have HG := Lib.hid (fun W (hb : Below w.heap.size w W) => isPuzzle_any t p ps v W hl (h.kept hb))
  have HC := Lib.hid (fun W => isClue_any ck ca cb W)
  obtain ⟨a, c, rfl, hcap, hx⟩ := h.cl
  clear h
  obtain ⟨K, hK⟩ : ∃ K, ps.length = K := ⟨_, rfl⟩
  have hK2 : (K : Int) ≤ 1048576 := by omega
  have HB0 : Hid (Below w.heap.size w (((w.alloc (.cells #[.int .i64 t, .int .i64 p, .slice a K c] 38)).alloc (.cells #[.int .i64 ck, .int .i64 ca, .int .i64 cb] 25)).alloc (.cells #[.int .i64 0, .int .i64 0, .slice none 0 0] 38))) := Lib.hid (((below_new w _).alloc (by simp) _).alloc (by simp; omega) _)
  have B0 : Hid (Bz (((w.alloc (.cells #[.int .i64 t, .int .i64 p, .slice a K c] 38)).alloc (.cells #[.int .i64 ck, .int .i64 ca, .int .i64 cb] 25)).alloc (.cells #[.int .i64 0, .int .i64 0, .slice none 0 0] 38)) w.heap.size t p (.slice a K c)) := Lib.hid (((Bz.new _ _ _ _ _).grow _).grow _)
  have Q0 : Hid (PtCell (((w.alloc (.cells #[.int .i64 t, .int .i64 p, .slice a K c] 38)).alloc (.cells #[.int .i64 ck, .int .i64 ca, .int .i64 cb] 25)).alloc (.cells #[.int .i64 0, .int .i64 0, .slice none 0 0] 38)) (w.heap.size + 1) 0 (ck, ca, cb) ∧ w.heap.size + 1 < (((w.alloc (.cells #[.int .i64 t, .int .i64 p, .slice a K c] 38)).alloc (.cells #[.int .i64 ck, .int .i64 ca, .int .i64 cb] 25)).alloc (.cells #[.int .i64 0, .int .i64 0, .slice none 0 0] 38)).heap.size) := Lib.hid ⟨⟨by go_simp, by go_simp, by go_simp⟩, by simp⟩
  have R0 : Hid (BzF (((w.alloc (.cells #[.int .i64 t, .int .i64 p, .slice a K c] 38)).alloc (.cells #[.int .i64 ck, .int .i64 ca, .int .i64 cb] 25)).alloc (.cells #[.int .i64 0, .int .i64 0, .slice none 0 0] 38)) (w.heap.size + 1 + 1) 0 0 (.slice none 0 0)) := Lib.hid (BzF.new _ _ _ _ _ (by simp))
  have HD : Hid (acB t p ps (ck, ca, cb) = (pzB t p ps && clB (ck, ca, cb) && decide (K ≠ 6))) := Lib.hid (by unfold acB; rw [hK])
  have HX : Hid (acX t p ps (ck, ca, cb) = if acB t p ps (ck, ca, cb) = true then ps ++ [(ck, ca, cb)] else []) := Lib.hid rfl
  have HF : Hid (acB t p ps (ck, ca, cb) = false) := Lib.hid (by rw [HD.out, hg, hc]; simp; omega)
  have HXF : Hid (acX t p ps (ck, ca, cb) = []) := Lib.hid (by rw [HX.out, HF.out]; rfl)
  rw [HXF.out, HF.out]
  rw [hg] at HG
  rw [hc] at HC
  have hk6 : ((K : Int) == 6) = true := by rw [beq_iff_eq]; omega
  rw [hK] at HG ⊢
  clear hx hcap hl hK HD HX hg hc h6
  go_enter Try.func44, Try.ntmps44
  go_wp2_with (first | (go_at_call 21; refine (HG.out _ HB0.out).mono ?_; rintro e w1 ⟨rfl, hb1⟩; have B1 := Lib.hid (B0.out.kept hb1); have Q1 := Lib.hid (And.intro (Q0.out.1.of (hb1.block _ Q0.out.2)) (Nat.lt_of_lt_of_le Q0.out.2 hb1.size)); have R1 := Lib.hid (R0.out.kept hb1); have HB1 := Lib.hid (HB0.out.trans (hb1.mono HB0.out.size)); clear hb1; obtain ⟨⟨p0, p1, p2⟩, p3⟩ := B1.out; obtain ⟨⟨q0, q1, q2⟩, q3⟩ := Q1.out; dsimp only at q0 q1 q2; obtain ⟨r0, r1, r2, f0, f1, f2⟩ := R1.out.cells) | (go_at_call 17; refine (HC.out _).mono ?_; rintro e w2 ⟨rfl, hb2⟩; have B2 := Lib.hid (B1.out.kept hb2); have Q2 := Lib.hid (And.intro (Q1.out.1.of (hb2.block _ Q1.out.2)) (Nat.lt_of_lt_of_le Q1.out.2 hb2.size)); have R2 := Lib.hid (R1.out.kept hb2); have HB2 := Lib.hid (HB1.out.trans (hb2.mono HB1.out.size)); clear hb2 p0 p1 p2 p3 q0 q1 q2 q3 r0 r1 r2 f0 f1 f2; obtain ⟨⟨p0, p1, p2⟩, p3⟩ := B2.out; obtain ⟨⟨q0, q1, q2⟩, q3⟩ := Q2.out; dsimp only at q0 q1 q2; obtain ⟨r0, r1, r2, f0, f1, f2⟩ := R2.out.cells))
  obtain ⟨c0, c1, c2⟩ := put3_cells R2.out 0 0 (.slice none 0 0)
  unfold put3 at c0 c1 c2
  refine bodyPost_ret (v := .tuple #[.agg #[.int .i64 0, .int .i64 0, .slice none 0 0], .bool false]) (by simp [results, Try.f44, go_sem, c0, c1, c2]) rfl ⟨_, rfl, ?_, ?_⟩
  · exact (puz_none HB2.out (by omega)).1
  · exact (puz_none HB2.out (by omega)).2

set_option maxRecDepth 100000 in
set_option maxHeartbeats 8000000 in
theorem iAdd_yes (t p : Int) (ps : List Pt) (ck ca cb : Int) (v : Value) (w : World) (hl : ps.length ≤ 1048576) (h : PuzIn w v t p ps) (hg : pzB t p ps = true) (hc : clB (ck, ca, cb) = true) (h6 : ps.length ≠ 6) :
    Calls Try.prog 44 #[v, .agg #[.int .i64 ck, .int .i64 ca, .int .i64 cb]] w (RetPuz (ifT (acB t p ps (ck, ca, cb)) t) (ifT (acB t p ps (ck, ca, cb)) p) (acX t p ps (ck, ca, cb)) (acB t p ps (ck, ca, cb)) w) := by
  have HG := Lib.hid (fun W (hb : Below w.heap.size w W) => isPuzzle_any t p ps v W hl (h.kept hb))
  have HC := Lib.hid (fun W => isClue_any ck ca cb W)
  obtain ⟨a, c, rfl, hcap, hx⟩ := h.cl
  clear h
  obtain ⟨K, hK⟩ : ∃ K, ps.length = K := ⟨_, rfl⟩
  have hK2 : (K : Int) ≤ 1048576 := by omega
  have HB0 : Hid (Below w.heap.size w (((w.alloc (.cells #[.int .i64 t, .int .i64 p, .slice a K c] 38)).alloc (.cells #[.int .i64 ck, .int .i64 ca, .int .i64 cb] 25)).alloc (.cells #[.int .i64 0, .int .i64 0, .slice none 0 0] 38))) := Lib.hid (((below_new w _).alloc (by simp) _).alloc (by simp; omega) _)
  have B0 : Hid (Bz (((w.alloc (.cells #[.int .i64 t, .int .i64 p, .slice a K c] 38)).alloc (.cells #[.int .i64 ck, .int .i64 ca, .int .i64 cb] 25)).alloc (.cells #[.int .i64 0, .int .i64 0, .slice none 0 0] 38)) w.heap.size t p (.slice a K c)) := Lib.hid (((Bz.new _ _ _ _ _).grow _).grow _)
  have Q0 : Hid (PtCell (((w.alloc (.cells #[.int .i64 t, .int .i64 p, .slice a K c] 38)).alloc (.cells #[.int .i64 ck, .int .i64 ca, .int .i64 cb] 25)).alloc (.cells #[.int .i64 0, .int .i64 0, .slice none 0 0] 38)) (w.heap.size + 1) 0 (ck, ca, cb) ∧ w.heap.size + 1 < (((w.alloc (.cells #[.int .i64 t, .int .i64 p, .slice a K c] 38)).alloc (.cells #[.int .i64 ck, .int .i64 ca, .int .i64 cb] 25)).alloc (.cells #[.int .i64 0, .int .i64 0, .slice none 0 0] 38)).heap.size) := Lib.hid ⟨⟨by go_simp, by go_simp, by go_simp⟩, by simp⟩
  have R0 : Hid (BzF (((w.alloc (.cells #[.int .i64 t, .int .i64 p, .slice a K c] 38)).alloc (.cells #[.int .i64 ck, .int .i64 ca, .int .i64 cb] 25)).alloc (.cells #[.int .i64 0, .int .i64 0, .slice none 0 0] 38)) (w.heap.size + 1 + 1) 0 0 (.slice none 0 0)) := Lib.hid (BzF.new _ _ _ _ _ (by simp))
  have HD : Hid (acB t p ps (ck, ca, cb) = (pzB t p ps && clB (ck, ca, cb) && decide (K ≠ 6))) := Lib.hid (by unfold acB; rw [hK])
  have HX : Hid (acX t p ps (ck, ca, cb) = if acB t p ps (ck, ca, cb) = true then ps ++ [(ck, ca, cb)] else []) := Lib.hid rfl
  have HF : Hid (acB t p ps (ck, ca, cb) = true) := Lib.hid (by rw [HD.out, hg, hc]; simp; omega)
  have HXF : Hid (acX t p ps (ck, ca, cb) = ps ++ [(ck, ca, cb)]) := Lib.hid (by rw [HX.out, HF.out]; rfl)
  have HT : Hid (∀ x, ifT true x = x) := Lib.hid (fun x => rfl)
  obtain ⟨i0, hi, hi0, hi1, hi2⟩ := info_parts infoCl
  have hk6 : ((K : Int) == 6) = false := by rw [beq_eq_false_iff_ne]; omega
  have hk7 : K ≤ 6 := by have := (pzB_iff.1 hg).2.1; omega
  have HOLDS : Hid (∀ W, Below w.heap.size w W → ∀ b0, a = some b0 → ∀ j u, (ptCells ps)[j]? = some u → W.cell? (b0.add j) = some u) := Lib.hid (fun W hb b0 e j u hu => by
    rcases Nat.eq_zero_or_pos ps.length with e0 | e0
    · rw [List.eq_nil_of_length_eq_zero e0] at hu
      simp [ptCells] at hu
    · obtain ⟨b, off, e2, _⟩ := hx 0 e0
      rw [e] at e2
      cases e2
      subst e
      exact clCells_src (hx.keep hb) j u hu)
  have HPL : Hid ((ptCells ps).length = K * 3) := Lib.hid (by rw [ptCells_length, hK])
  have HP1 := Lib.hid (ptCells_one ps)
  have HFIN : Hid (∀ W B v, W.ownsRow B 25 3 v (K + 1) (ptCells ps ++ [.int .i64 ck, .int .i64 ca, .int .i64 cb]) → ClsAt W B v (ps ++ [(ck, ca, cb)])) := Lib.hid (fun W B v h => by
    unfold ClsAt
    rw [ptCells_snoc, List.length_append, hK]
    exact h)
  have hm1 : K + 1 ≤ maxLen := by unfold maxLen; omega
  have hm2 : (K + 1) * 24 ≤ 140737488355328 := by omega
  rw [HXF.out, HF.out, HT.out, HT.out]
  rw [hg] at HG
  rw [hc] at HC
  have HFC := Lib.hid (fun W => firstClues_any t p a K c K W (by omega) hcap.2)
  have HKK := Lib.hid hK
  have HN0 : Hid (a = none → K = 0 ∧ K = 0) := Lib.hid (fun e => by
    rcases Nat.eq_zero_or_pos ps.length with e0 | e0
    · omega
    · obtain ⟨b, off, e2, _⟩ := hx 0 e0
      rw [e] at e2; cases e2)
  rw [hK] at HG ⊢
  clear hx hcap hl hK HD HX hg hc h6
  go_enter Try.func44, Try.ntmps44
  go_wp2_with (first | (go_at_call 21; refine (HG.out _ HB0.out).mono ?_; rintro e w1 ⟨rfl, hb1⟩; have B1 := Lib.hid (B0.out.kept hb1); have Q1 := Lib.hid (And.intro (Q0.out.1.of (hb1.block _ Q0.out.2)) (Nat.lt_of_lt_of_le Q0.out.2 hb1.size)); have R1 := Lib.hid (R0.out.kept hb1); have HB1 := Lib.hid (HB0.out.trans (hb1.mono HB0.out.size)); clear hb1; obtain ⟨⟨p0, p1, p2⟩, p3⟩ := B1.out; obtain ⟨⟨q0, q1, q2⟩, q3⟩ := Q1.out; dsimp only at q0 q1 q2; obtain ⟨r0, r1, r2, f0, f1, f2⟩ := R1.out.cells) | (go_at_call 17; refine (HC.out _).mono ?_; rintro e w2 ⟨rfl, hb2⟩; have B2 := Lib.hid (B1.out.kept hb2); have Q2 := Lib.hid (And.intro (Q1.out.1.of (hb2.block _ Q1.out.2)) (Nat.lt_of_lt_of_le Q1.out.2 hb2.size)); have R2 := Lib.hid (R1.out.kept hb2); have HB2 := Lib.hid (HB1.out.trans (hb2.mono HB1.out.size)); clear hb2 p0 p1 p2 p3 q0 q1 q2 q3 r0 r1 r2 f0 f1 f2; obtain ⟨⟨p0, p1, p2⟩, p3⟩ := B2.out; obtain ⟨⟨q0, q1, q2⟩, q3⟩ := Q2.out; dsimp only at q0 q1 q2; obtain ⟨r0, r1, r2, f0, f1, f2⟩ := R2.out.cells))
  have hR2 : w.heap.size + 1 + 1 < w2.heap.size := R2.out.1.2
  have hn01 : ¬ (w.heap.size + 1 + 1 = w.heap.size) := by omega
  have hn02 : ¬ (w.heap.size = w.heap.size + 1 + 1) := by omega
  have hn03 : ¬ (w.heap.size + 1 + 1 = w.heap.size + 1) := by omega
  have hn04 : ¬ (w.heap.size + 1 = w.heap.size + 1 + 1) := by omega
  have HLN : Hid ((ps ++ [(ck, ca, cb)]).length = K + 1) := Lib.hid (by rw [List.length_append, HKK.out]; rfl)
  clear r0 r1 r2 f0 f1 f2
  go_region_held3 (fun w' => (w'.cell? ⟨w.heap.size, 0, none⟩ = some (.int .i64 t) ∧ w'.cell? ⟨w.heap.size, 1, none⟩ = some (.int .i64 p) ∧ w'.cell? ⟨w.heap.size, 2, none⟩ = some (.slice a K c)) ∧ w'.cell? ⟨w.heap.size + 1, 0, none⟩ = some (.int .i64 ck) ∧ w'.cell? ⟨w.heap.size + 1, 1, none⟩ = some (.int .i64 ca) ∧ w'.cell? ⟨w.heap.size + 1, 2, none⟩ = some (.int .i64 cb)) (go_keep)
    ((first
      | (go_at_call 70; refine (HFC.out _).mono ?_; rintro e w4 ⟨rfl, hb4⟩; have HB4 : Hid (Below w2.heap.size w2 w4) := Lib.hid (by first | exact hb4 | exact (Below.refl _ _).drew.trans hb4 | exact (below_new w2 _).trans (hb4.mono (by simp)) | exact (below_new w2 _).drew.trans (hb4.mono (by simp)) | exact ((Below.refl _ _).drew.trans (below_new w2.drew _)).trans (hb4.mono (by simp)) | exact ((Below.refl _ _).drew.trans (below_new w2.drew _)).drew.trans (hb4.mono (by simp))); obtain ⟨⟨s0, s1, s2⟩, s3⟩ := B2.out.kept HB4.out; obtain ⟨s4, s5, s6⟩ := Q2.out.1.of (HB4.out.block _ Q2.out.2); dsimp only at s4 s5 s6; first | (have HN4 : Hid (∀ j u, [Value.int .i64 ck, Value.int .i64 ca, Value.int .i64 cb][j]? = some u → w4.cell? ((⟨w2.heap.size, 0, none⟩ : Addr).add j) = some u) := Lib.hid (fun j u hu => (hb4.cell (p := (⟨w2.heap.size, 0, none⟩ : Addr).add j) (by first | (simp [Addr.add]; done) | (simp [Addr.add]; split <;> simp))).trans (by first | exact three_new w2 _ _ _ _ rfl hu | exact three_new w2.drew _ _ _ _ rfl hu))) | skip; clear hb4)
      | (refine step_append_grows rfl (.tmp 27) (.tmp 29) 36 rfl 25 i0 (.agg #[.int .i64 0, .int .i64 0, .int .i64 0]) 3 24 Try.underlying36 hi hi0 hi1 hi2 rfl (by decide) a K K (ptCells ps) (by simp [Act.eval]) HN0.out HPL.out (HOLDS.out _ (HB2.out.trans ((show Below w2.heap.size w2 _ from by first | exact HB4.out | exact HB4.out.drew | exact HB4.out.drew.drew).mono HB2.out.size))) ⟨w2.heap.size, 0, none⟩ 1 1 [.int .i64 ck, .int .i64 ca, .int .i64 cb] (by simp [Act.eval]) rfl HN4.out (by simp [Value.oneCell']) (Nat.lt_succ_self _) hm1 hm2 ?_; intro v6 w6 hown6 hgrow6; have HB26 : Hid (Below w2.heap.size w2 w6) := Lib.hid ((show Below w2.heap.size w2 _ from by first | exact HB4.out | exact HB4.out.drew | exact HB4.out.drew.drew).grown hgrow6 (show Below w2.heap.size w2 _ from by first | exact HB4.out | exact HB4.out.drew | exact HB4.out.drew.drew).size (fun k e => by simp at e)); have HV6 := Lib.hid (HFIN.out _ _ _ (ownsRow_base hown6 (show Below w2.heap.size w2 _ from by first | exact HB4.out | exact HB4.out.drew | exact HB4.out.drew.drew).size)); have R6 := Lib.hid (R2.out.kept HB26.out); have HB6 := Lib.hid (HB2.out.trans (HB26.out.mono HB2.out.size)); obtain ⟨⟨s0, s1, s2⟩, s3⟩ := B2.out.kept HB26.out; obtain ⟨s4, s5, s6⟩ := Q2.out.1.of (HB26.out.block _ Q2.out.2); dsimp only at s4 s5 s6; obtain ⟨t0, t1, t2, u0, u1, u2⟩ := R6.out.cells; obtain ⟨a6, c6, e6, _⟩ := HV6.out.row; rw [HLN.out] at e6; subst e6; clear hown6 hgrow6)
      | (refine step_append_grows rfl (.tmp 27) (.tmp 29) 36 rfl 25 i0 (.agg #[.int .i64 0, .int .i64 0, .int .i64 0]) 3 24 Try.underlying36 hi hi0 hi1 hi2 rfl (by decide) a K K (ptCells ps) (by simp [Act.eval]) HN0.out HPL.out (HOLDS.out _ (HB2.out.trans ((show Below w2.heap.size w2 _ from by first | exact HB4.out.alloc HB4.out.size _ | exact (HB4.out.alloc HB4.out.size _).drew | exact HB4.out.drew.alloc HB4.out.drew.size _ | exact (HB4.out.drew.alloc HB4.out.drew.size _).drew).mono HB2.out.size))) ⟨w4.heap.size, 0, none⟩ 1 1 [.int .i64 ck, .int .i64 ca, .int .i64 cb] (by simp [Act.eval]) rfl (fun j u hu => by first | exact three_new w4 _ _ _ _ rfl hu | exact three_new w4.drew _ _ _ _ rfl hu) (by simp [Value.oneCell']) (Nat.lt_succ_self _) hm1 hm2 ?_; intro v6 w6 hown6 hgrow6; have HB26 : Hid (Below w2.heap.size w2 w6) := Lib.hid ((show Below w2.heap.size w2 _ from by first | exact HB4.out.alloc HB4.out.size _ | exact (HB4.out.alloc HB4.out.size _).drew | exact HB4.out.drew.alloc HB4.out.drew.size _ | exact (HB4.out.drew.alloc HB4.out.drew.size _).drew).grown hgrow6 (show Below w2.heap.size w2 _ from by first | exact HB4.out.alloc HB4.out.size _ | exact (HB4.out.alloc HB4.out.size _).drew | exact HB4.out.drew.alloc HB4.out.drew.size _ | exact (HB4.out.drew.alloc HB4.out.drew.size _).drew).size (fun k e => by simp at e)); have HV6 := Lib.hid (HFIN.out _ _ _ (ownsRow_base hown6 (show Below w2.heap.size w2 _ from by first | exact HB4.out.alloc HB4.out.size _ | exact (HB4.out.alloc HB4.out.size _).drew | exact HB4.out.drew.alloc HB4.out.drew.size _ | exact (HB4.out.drew.alloc HB4.out.drew.size _).drew).size)); have R6 := Lib.hid (R2.out.kept HB26.out); have HB6 := Lib.hid (HB2.out.trans (HB26.out.mono HB2.out.size)); obtain ⟨⟨s0, s1, s2⟩, s3⟩ := B2.out.kept HB26.out; obtain ⟨s4, s5, s6⟩ := Q2.out.1.of (HB26.out.block _ Q2.out.2); dsimp only at s4 s5 s6; obtain ⟨t0, t1, t2, u0, u1, u2⟩ := R6.out.cells; obtain ⟨a6, c6, e6, _⟩ := HV6.out.row; rw [HLN.out] at e6; subst e6; clear hown6 hgrow6)))
  all_goals
    go_wp2_with fail
    obtain ⟨c0, c1, c2⟩ := put3_cells R6.out t p (.slice a6 (K + 1) c6)
    unfold put3 at c0 c1 c2
    obtain ⟨_, _, _, hpz, hbl⟩ := puz_leaf (t := t) (p := p) HV6.out HB6.out (by omega) hR2
    refine bodyPost_ret (v := .tuple #[.agg #[.int .i64 t, .int .i64 p, .slice a6 (K + 1) c6], .bool true]) (by simp [results, Try.f44, go_sem, c0, c1, c2]) rfl ⟨_, rfl, ?_, ?_⟩
    · exact hpz
    · first | exact hbl | exact hbl.drew

end Go.Proofs.Ytheailbbnmblnaa
