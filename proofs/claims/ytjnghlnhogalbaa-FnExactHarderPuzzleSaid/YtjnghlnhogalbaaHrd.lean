/-
  'HarderPuzzle' of both.
-/
import Derived.Test.YtjnghlnhogalbaaRtZ
import Derived.Deep.CutRange
namespace Go.Proofs.Ytjnghlnhogalbaa
open Go.RowKit
set_option linter.unusedVariables false

/-- Is there just one solution? -/
def one1 (t p : Int) (cs : List Pt) : Bool := decide ((solA t p cs).length = 1)
/-- Clues taken out, from the clue k on. -/
def hdW (t p : Int) (cs : List Pt) (k : Nat) : List Pt :=
  if h : k < cs.length then (if one1 t p (clW cs k) = true then hdW t p (clW cs k) k else hdW t p cs (k + 1)) else cs
termination_by cs.length - k
decreasing_by
  · rw [clW_length h]; omega
  · omega
theorem hdW_yes {t p : Int} {cs : List Pt} {k : Nat} (h : k < cs.length) (h1 : one1 t p (clW cs k) = true) : hdW t p cs k = hdW t p (clW cs k) k := by
  rw [hdW, dif_pos h, if_pos h1]
theorem hdW_no {t p : Int} {cs : List Pt} {k : Nat} (h : k < cs.length) (h1 : one1 t p (clW cs k) = false) : hdW t p cs k = hdW t p cs (k + 1) := by
  rw [hdW, dif_pos h, if_neg (by rw [h1]; simp)]
theorem hdW_end {t p : Int} {cs : List Pt} {k : Nat} (h : ¬ k < cs.length) : hdW t p cs k = cs := by
  rw [hdW, dif_neg h]
theorem hdW_len (t p : Int) (cs : List Pt) (k : Nat) : (hdW t p cs k).length ≤ cs.length := by
  induction cs, k using hdW.induct t p with
  | case1 cs k h h1 ih => rw [hdW_yes h h1]; rw [clW_length h] at ih; omega
  | case2 cs k h h1 ih => rw [hdW_no h (by simpa using h1)]; exact ih
  | case3 cs k h => rw [hdW_end h]; exact Nat.le_refl _
theorem solA_nil (t p : Int) : (solA t p []).length = 60 := by
  unfold solA solK
  have e : allF t p [] = fun _ => true := rfl
  rw [e, List.filter_eq_self.2 (fun _ _ => rfl), List.length_map, List.length_range]
def hdB (t p : Int) (ps : List Pt) : Bool := pzB t p ps && one1 t p ps
def hdX (t p : Int) (ps : List Pt) : List Pt := if hdB t p ps = true then hdW t p ps 0 else []
theorem hdX_len (t p : Int) (ps : List Pt) (hl : ps.length ≤ 1048576) : (hdX t p ps).length ≤ 1048576 := by
  unfold hdX
  split
  · have := hdW_len t p ps 0; omega
  · simp
theorem clsAt_lit (w : World) (T : TypeId) (hT : T = 85) : ClsAt (w.alloc (.cells #[] T)) w.heap.size (.slice (some ⟨w.heap.size, 0, none⟩) 0 0) [] := by
  subst hT
  have := World.ownsRow_lit (base := w.heap.size) (e := 85) (size := 3) w #[] 0 (Nat.le_refl _) (by unfold maxLen; omega) rfl
  simpa [ClsAt, ptCells] using this
theorem ptCells_nil : ptCells [] = [] := rfl

set_option maxRecDepth 100000 in
set_option maxHeartbeats 8000000 in
theorem sHard_bad (t p : Int) (ps : List Pt) (v : Value) (w : World) (hl : ps.length ≤ 1048576) (h : PuzIn w v t p ps) (hg : pzB t p ps = false) :
    Calls Try.prog 17 #[v] w (RetPuz (ifT (hdB t p ps) t) (ifT (hdB t p ps) p) (hdX t p ps) (hdB t p ps) w) := by
  have HG := Lib.hid (fun W (hb : Below w.heap.size w W) => pzGood_any t p ps v W hl (h.kept hb))
  obtain ⟨a, c, rfl, hcap, hx⟩ := h.cl
  clear h
  obtain ⟨K, hK⟩ : ∃ K, ps.length = K := ⟨_, rfl⟩
  have hK2 : (K : Int) ≤ 1048576 := by omega
  have HB0 : Hid (Below w.heap.size w ((w.alloc (.cells #[.int .i64 t, .int .i64 p, .slice a K c] 34)).alloc (.cells #[.int .i64 0, .int .i64 0, .slice none 0 0] 34))) := Lib.hid ((below_new w _).alloc (by simp) _)
  have B0 : Hid (Bz ((w.alloc (.cells #[.int .i64 t, .int .i64 p, .slice a K c] 34)).alloc (.cells #[.int .i64 0, .int .i64 0, .slice none 0 0] 34)) w.heap.size t p (.slice a K c)) := Lib.hid ((Bz.new _ _ _ _ _).grow _)
  have R0 : Hid (BzF ((w.alloc (.cells #[.int .i64 t, .int .i64 p, .slice a K c] 34)).alloc (.cells #[.int .i64 0, .int .i64 0, .slice none 0 0] 34)) (w.heap.size + 1) 0 0 (.slice none 0 0)) := Lib.hid (BzF.new _ _ _ _ _ (by simp))
  have HD : Hid (hdB t p ps = (pzB t p ps && one1 t p ps)) := Lib.hid rfl
  have HX : Hid (hdX t p ps = if hdB t p ps = true then hdW t p ps 0 else []) := Lib.hid rfl
  have HF : Hid (hdB t p ps = false) := Lib.hid (by rw [HD.out, hg]; rfl)
  have HXF : Hid (hdX t p ps = []) := Lib.hid (by rw [HX.out, HF.out]; rfl)
  rw [HXF.out, HF.out]
  rw [hg] at HG
  rw [hK] at HG ⊢
  clear hx hcap hl hg hK HD HX
  go_enter Try.func17, Try.ntmps17
  go_wp2_with ((go_at_call 36; refine (HG.out _ HB0.out).mono ?_; rintro e w1 ⟨rfl, hb1⟩; have B1 := Lib.hid (B0.out.kept hb1); have R1 := Lib.hid (R0.out.kept hb1); have HB1 := Lib.hid (HB0.out.trans (hb1.mono HB0.out.size)); clear hb1; obtain ⟨⟨p0, p1, p2⟩, p3⟩ := B1.out; obtain ⟨r0, r1, r2, f0, f1, f2⟩ := R1.out.cells))
  obtain ⟨c0, c1, c2⟩ := put3_cells R1.out 0 0 (.slice none 0 0)
  unfold put3 at c0 c1 c2
  refine bodyPost_ret (v := .tuple #[.agg #[.int .i64 0, .int .i64 0, .slice none 0 0], .bool false]) (by simp [results, Try.f17, go_sem, c0, c1, c2]) rfl ⟨_, rfl, ?_, ?_⟩
  · exact (puz_none HB1.out (Nat.le_succ _)).1
  · exact (puz_none HB1.out (Nat.le_succ _)).2


set_option maxRecDepth 100000 in
set_option maxHeartbeats 8000000 in
theorem sHard_not (t p : Int) (ps : List Pt) (v : Value) (w : World) (hl : ps.length ≤ 1048576) (h : PuzIn w v t p ps) (hg : pzB t p ps = true) (ho : one1 t p ps = false) :
    Calls Try.prog 17 #[v] w (RetPuz (ifT (hdB t p ps) t) (ifT (hdB t p ps) p) (hdX t p ps) (hdB t p ps) w) := by
  have HG := Lib.hid (fun W (hb : Below w.heap.size w W) => pzGood_any t p ps v W hl (h.kept hb))
  obtain ⟨a, c, rfl, hcap, hx⟩ := h.cl
  clear h
  obtain ⟨K, hK⟩ : ∃ K, ps.length = K := ⟨_, rfl⟩
  have hK2 : (K : Int) ≤ 1048576 := by omega
  have HB0 : Hid (Below w.heap.size w ((w.alloc (.cells #[.int .i64 t, .int .i64 p, .slice a K c] 34)).alloc (.cells #[.int .i64 0, .int .i64 0, .slice none 0 0] 34))) := Lib.hid ((below_new w _).alloc (by simp) _)
  have B0 : Hid (Bz ((w.alloc (.cells #[.int .i64 t, .int .i64 p, .slice a K c] 34)).alloc (.cells #[.int .i64 0, .int .i64 0, .slice none 0 0] 34)) w.heap.size t p (.slice a K c)) := Lib.hid ((Bz.new _ _ _ _ _).grow _)
  have R0 : Hid (BzF ((w.alloc (.cells #[.int .i64 t, .int .i64 p, .slice a K c] 34)).alloc (.cells #[.int .i64 0, .int .i64 0, .slice none 0 0] 34)) (w.heap.size + 1) 0 0 (.slice none 0 0)) := Lib.hid (BzF.new _ _ _ _ _ (by simp))
  have HD : Hid (hdB t p ps = (pzB t p ps && one1 t p ps)) := Lib.hid rfl
  have HX : Hid (hdX t p ps = if hdB t p ps = true then hdW t p ps 0 else []) := Lib.hid rfl
  obtain ⟨g1, g2, g3⟩ := pzB_iff.1 hg
  have HSO := Lib.hid (fun W cs a' c' (hcl : cs.all clB = true) (hll : cs.length ≤ 6) (hc : ClIn W a' cs) => pzSolved_any t p cs a' c' W g1 hcl hll hc)
  have HSP : Hid (∀ W, Below w.heap.size w W → Calls Try.prog 49 #[.agg #[.int .i64 t, .int .i64 p], .slice a K c] W fun e w' => e = .returned (.bool (one1 t p ps)) ∧ Below W.heap.size W w') := Lib.hid (fun W hb => by rw [← hK]; exact HSO.out W ps a c g3 g2 (hx.keep hb))
  have HF : Hid (hdB t p ps = false) := Lib.hid (by rw [HD.out, hg, ho]; rfl)
  have HXF : Hid (hdX t p ps = []) := Lib.hid (by rw [HX.out, HF.out]; rfl)
  rw [HXF.out, HF.out]
  rw [hg] at HG
  rw [ho] at HSP
  rw [hK] at HG ⊢
  clear hx hcap hl hg hK HD HX g1 g2 g3 HSO
  go_enter Try.func17, Try.ntmps17
  go_wp2_with (first | (go_at_call 36; refine (HG.out _ HB0.out).mono ?_; rintro e w1 ⟨rfl, hb1⟩; have B1 := Lib.hid (B0.out.kept hb1); have R1 := Lib.hid (R0.out.kept hb1); have HB1 := Lib.hid (HB0.out.trans (hb1.mono HB0.out.size)); clear hb1; obtain ⟨⟨p0, p1, p2⟩, p3⟩ := B1.out; obtain ⟨r0, r1, r2, f0, f1, f2⟩ := R1.out.cells) | (go_at_call 49; refine (HSP.out _ HB1.out).mono ?_; rintro e w2 ⟨rfl, hb2⟩; have R2 := Lib.hid (R1.out.kept hb2); have HB2 := Lib.hid (HB1.out.trans (hb2.mono HB1.out.size)); clear hb2 p0 p1 p2 r0 r1 r2 f0 f1 f2; obtain ⟨r0, r1, r2, f0, f1, f2⟩ := R2.out.cells))
  obtain ⟨c0, c1, c2⟩ := put3_cells R2.out 0 0 (.slice none 0 0)
  unfold put3 at c0 c1 c2
  refine bodyPost_ret (v := .tuple #[.agg #[.int .i64 0, .int .i64 0, .slice none 0 0], .bool false]) (by simp [results, Try.f17, go_sem, c0, c1, c2]) rfl ⟨_, rfl, ?_, ?_⟩
  · exact (puz_none HB2.out (Nat.le_succ _)).1
  · exact (puz_none HB2.out (Nat.le_succ _)).2


set_option maxRecDepth 100000 in
set_option maxHeartbeats 8000000 in
theorem sHard_yes (t p : Int) (ps : List Pt) (v : Value) (w : World) (hl : ps.length ≤ 1048576) (h : PuzIn w v t p ps) (hg : pzB t p ps = true) (ho : one1 t p ps = true) :
    Calls Try.prog 17 #[v] w (RetPuz (ifT (hdB t p ps) t) (ifT (hdB t p ps) p) (hdX t p ps) (hdB t p ps) w) := by
  have HG := Lib.hid (fun W (hb : Below w.heap.size w W) => pzGood_any t p ps v W hl (h.kept hb))
  obtain ⟨a, c, rfl, hcap, hx⟩ := h.cl
  clear h
  obtain ⟨K, hK⟩ : ∃ K, ps.length = K := ⟨_, rfl⟩
  have hK2 : (K : Int) ≤ 1048576 := by omega
  have HB0 : Hid (Below w.heap.size w ((w.alloc (.cells #[.int .i64 t, .int .i64 p, .slice a K c] 34)).alloc (.cells #[.int .i64 0, .int .i64 0, .slice none 0 0] 34))) := Lib.hid ((below_new w _).alloc (by simp) _)
  have B0 : Hid (Bz ((w.alloc (.cells #[.int .i64 t, .int .i64 p, .slice a K c] 34)).alloc (.cells #[.int .i64 0, .int .i64 0, .slice none 0 0] 34)) w.heap.size t p (.slice a K c)) := Lib.hid ((Bz.new _ _ _ _ _).grow _)
  have R0 : Hid (BzF ((w.alloc (.cells #[.int .i64 t, .int .i64 p, .slice a K c] 34)).alloc (.cells #[.int .i64 0, .int .i64 0, .slice none 0 0] 34)) (w.heap.size + 1) 0 0 (.slice none 0 0)) := Lib.hid (BzF.new _ _ _ _ _ (by simp))
  have HD : Hid (hdB t p ps = (pzB t p ps && one1 t p ps)) := Lib.hid rfl
  have HX : Hid (hdX t p ps = if hdB t p ps = true then hdW t p ps 0 else []) := Lib.hid rfl
  obtain ⟨g1, g2, g3⟩ := pzB_iff.1 hg
  have HSO := Lib.hid (fun W cs a' c' (hcl : cs.all clB = true) (hll : cs.length ≤ 6) (hc : ClIn W a' cs) => pzSolved_any t p cs a' c' W g1 hcl hll hc)
  have HSP : Hid (∀ W, Below w.heap.size w W → Calls Try.prog 49 #[.agg #[.int .i64 t, .int .i64 p], .slice a K c] W fun e w' => e = .returned (.bool (one1 t p ps)) ∧ Below W.heap.size W w') := Lib.hid (fun W hb => by rw [← hK]; exact HSO.out W ps a c g3 g2 (hx.keep hb))
  have HF : Hid (hdB t p ps = true) := Lib.hid (by rw [HD.out, hg, ho]; rfl)
  have HXF : Hid (hdX t p ps = hdW t p ps 0) := Lib.hid (by rw [HX.out, HF.out]; rfl)
  have HT : Hid (∀ x, ifT true x = x) := Lib.hid (fun x => rfl)
  have hpos : 0 < ps.length := by
    rcases Nat.eq_zero_or_pos ps.length with e | e
    · have e2 : ps = [] := List.eq_nil_of_length_eq_zero e
      subst e2
      have e3 := solA_nil t p
      simp [one1, e3] at ho
    · exact e
  obtain ⟨i0, hi, hi0, hi1, hi2⟩ := info_parts infoCl
  obtain ⟨b, off, rfl, hbl, _⟩ := hx 0 hpos
  have HSRC : Hid (∀ W, Below w.heap.size w W → ∀ j u, (ptCells ps)[j]? = some u → W.cell? ((⟨b, off, none⟩ : Addr).add j) = some u) := Lib.hid (fun W hb => clCells_src (hx.keep hb))
  have HPL : Hid ((ptCells ps).length = K * 3) := Lib.hid (by rw [ptCells_length, hK])
  have HP1 := Lib.hid (ptCells_one ps)
  have HCS : Hid (∀ W B v, W.ownsRow B 85 3 v (0 + K) ([] ++ ptCells ps) → ClsAt W B v ps) := Lib.hid (fun W B v h => by
    unfold ClsAt
    rw [hK]
    simpa using h)
  rw [HXF.out, HF.out, HT.out, HT.out]
  obtain ⟨R, hR⟩ : ∃ R, hdW t p ps 0 = R := ⟨_, rfl⟩
  have HINV0 : Hid (hdW t p ps 0 = R ∧ ps.all clB = true ∧ ps.length ≤ 6) := Lib.hid ⟨hR, g3, g2⟩
  rw [hR]
  have HWO := Lib.hid (fun W cs k a' c' (hll : cs.length ≤ 6) (hk : k < cs.length) (hc : cs.length ≤ c' ∧ c' ≤ maxLen) (hxx : ClIn W a' cs) => pzWithout_any cs k a' c' W hll hk hc hxx)
  have hK6 : K ≤ 6 := by omega
  have hm1 : 0 + K ≤ maxLen := by unfold maxLen; omega
  have hm2 : (0 + K) * 24 ≤ 140737488355328 := by omega
  rw [hg] at HG
  rw [ho] at HSP
  rw [hK] at HG ⊢
  clear hx hcap hl hg hK HD HX g1 g2 g3 ho hpos hbl hR
  go_enter Try.func17, Try.ntmps17
  go_wp2_with (first | (go_at_call 36; refine (HG.out _ HB0.out).mono ?_; rintro e w1 ⟨rfl, hb1⟩; have B1 := Lib.hid (B0.out.kept hb1); have R1 := Lib.hid (R0.out.kept hb1); have HB1 := Lib.hid (HB0.out.trans (hb1.mono HB0.out.size)); clear hb1; obtain ⟨⟨p0, p1, p2⟩, p3⟩ := B1.out; obtain ⟨r0, r1, r2, f0, f1, f2⟩ := R1.out.cells) | (go_at_call 49; refine (HSP.out _ HB1.out).mono ?_; rintro e w2 ⟨rfl, hb2⟩; have B2 := Lib.hid (B1.out.kept hb2); have R2 := Lib.hid (R1.out.kept hb2); have HB2 := Lib.hid (HB1.out.trans (hb2.mono HB1.out.size)); clear hb2 p0 p1 p2 p3 r0 r1 r2 f0 f1 f2; obtain ⟨⟨p0, p1, p2⟩, p3⟩ := B2.out; have hn1 : ¬ (w.heap.size = w2.heap.size) := (by omega); have hn2 : ¬ (w2.heap.size = w.heap.size) := (by omega)) | (at_builtin; refine wpList_append_own _ rfl _ _ 32 rfl w2.heap.size 85 i0 (.agg #[.int .i64 0, .int .i64 0, .int .i64 0]) 3 24 Try.underlying32 hi hi0 hi1 hi2 rfl (by decide) _ 0 [] rfl (clsAt_lit w2 _ rfl) ⟨b, off, none⟩ K c (ptCells ps) rfl HPL.out (HSRC.out _ (HB2.out.trans ((below_new w2 _).mono HB2.out.size))) HP1.out hm1 hm2 (by simp) ?_; intro v3 w3 hown3 hgrow3 _))
  have hb23 : Below w2.heap.size w2 w3 := (below_new w2 _).grown hgrow3 (by simp) (fun k e => (World.ownsRow.lt (clsAt_lit w2 85 rfl) k e).1)
  have HV3 := Lib.hid (HCS.out _ _ _ hown3)
  have B3 := Lib.hid (B2.out.kept hb23)
  have R3 := Lib.hid (R2.out.kept hb23)
  have HB3 := Lib.hid (HB2.out.trans (hb23.mono HB2.out.size))
  have hR2 := R2.out.1.2
  have HS3 := Lib.hid hb23.size
  clear hown3 hgrow3 hb23 p0 p1 p2 p3 hn1 hn2
  go_loopw [4, 5] (fun cv kv wr => ∃ (cs : List Pt) (k : Nat), k ≤ cs.length ∧ kv = .int .i64 k ∧ ClsAt wr w2.heap.size cv cs ∧ (hdW t p cs k = R ∧ cs.all clB = true ∧ cs.length ≤ 6) ∧ Bz wr w.heap.size t p (.slice (some ⟨b, off, none⟩) K c) ∧ BzF wr (w.heap.size + 1) 0 0 (.slice none 0 0) ∧ (Below w.heap.size w wr ∧ w2.heap.size ≤ wr.heap.size)) (fun cv kv _ => (match cv with | .slice _ n _ => n | _ => 0) - (intOf kv).toNat)
  case atStart => exact ⟨ps, 0, Nat.zero_le _, rfl, HV3.out, HINV0.out, B3.out, R3.out, HB3.out, HS3.out⟩
  case round =>
    clear HV3 HINV0 B3 R3 HB3
    obtain ⟨cs, k, hk, rfl, hcv, hinv, hbz, hrz, hbel, hs⟩ := hrel
    have HS := Lib.hid hs
    obtain ⟨a3, c3, rfl, hcap3, hx3⟩ := hcv.cl
    have HCV := Lib.hid hcv
    have HINV := Lib.hid hinv
    have BR := Lib.hid hbz
    have RR := Lib.hid hrz
    have HBR := Lib.hid hbel
    obtain ⟨⟨p0, p1, p2⟩, p3⟩ := hbz
    by_cases hlt : k < cs.length
    · have hle : (k : Int) < (cs.length : Int) := by omega
      have hk6 : (k : Int) ≤ 6 := by have := hinv.2.2; omega
      have HWK := Lib.hid (HWO.out wr cs k a3 c3 hinv.2.2 hlt hcap3 hx3)
      have HSK := Lib.hid (fun W a' c' hc => HSO.out W (clW cs k) a' c' (clW_all k HINV.out.2.1) (by rw [clW_length hlt]; have := HINV.out.2.2; omega) hc)
      have HY : Hid (one1 t p (clW cs k) = true → hdW t p (clW cs k) k = R ∧ (clW cs k).all clB = true ∧ (clW cs k).length ≤ 6 ∧ k ≤ (clW cs k).length ∧ (clW cs k).length + 1 = cs.length) := Lib.hid (fun h1 => ⟨by rw [← hdW_yes hlt h1]; exact HINV.out.1, clW_all k HINV.out.2.1, by rw [clW_length hlt]; have := HINV.out.2.2; omega, by rw [clW_length hlt]; omega, by rw [clW_length hlt]; omega⟩)
      have HN : Hid (one1 t p (clW cs k) = false → hdW t p cs (k + 1) = R) := Lib.hid (fun h1 => by rw [← hdW_no hlt h1]; exact HINV.out.1)
      have HO1 : Hid (one1 t p (clW cs k) = decide ((solA t p (clW cs k)).length = 1)) := Lib.hid rfl
      have hsz : w2.heap.size ≤ wr.heap.size := HS.out
      generalize clW cs k = cw at HWK HSK HY HN HO1
      clear hcv hinv hbel hrz hcap3 hx3 hs
      go_wp2_with fail
      refine HWK.out.mono ?_
      rintro e w4 ⟨v4, rfl, hv4, hb4⟩
      obtain ⟨a4, c4, rfl, hcap4, hx4⟩ := hv4.cl
      have HV4 := Lib.hid hv4
      have HX4 := Lib.hid hx4
      have B4 := Lib.hid (BR.out.kept hb4)
      have R4 := Lib.hid (RR.out.kept hb4)
      have HB4 := Lib.hid (HBR.out.trans (hb4.mono HBR.out.size))
      have HC4 := Lib.hid (show ClsAt w4 w2.heap.size _ cs from ownsRow_kept HCV.out hb4)
      have HS4 := Lib.hid hb4.size
      clear hv4 hb4 hx4 hcap4 p0 p1 p2 p3
      obtain ⟨⟨p0, p1, p2⟩, p3⟩ := B4.out
      go_wp2_with fail
      refine (HSK.out _ _ _ HX4.out).mono ?_
      rintro e w5 ⟨rfl, hb5⟩
      rw [← HO1.out]
      have B5 := Lib.hid (B4.out.kept hb5)
      have R5 := Lib.hid (R4.out.kept hb5)
      have HB5 := Lib.hid (HB4.out.trans (hb5.mono HB4.out.size))
      have HC5 := Lib.hid (show ClsAt w5 w2.heap.size _ cs from ownsRow_kept HC4.out hb5)
      have HV5 := Lib.hid (show ClsAt w5 wr.heap.size _ cw from ownsRow_kept HV4.out hb5)
      have HS5 := Lib.hid (Nat.le_trans HS4.out hb5.size)
      clear hb5 p0 p1 p2 p3
      cases h1 : one1 t p cw
      · have HN2 := Lib.hid (HN.out h1)
        clear HY HN h1
        go_wp2_with fail
        exact ⟨⟨cs, k + 1, hlt, by go_num, HC5.out, ⟨HN2.out, HINV.out.2⟩, B5.out, R5.out, HB5.out, Nat.le_trans HS.out HS5.out⟩, by simp [intOf]; omega⟩
      · have HY2 := Lib.hid (HY.out h1)
        clear HY HN h1
        go_wp2_with fail
        exact ⟨⟨cw, k, HY2.out.2.2.2.1, rfl, ownsRow_base HV5.out hsz, ⟨HY2.out.1, HY2.out.2.1, HY2.out.2.2.1⟩, B5.out, R5.out, HB5.out, Nat.le_trans HS.out HS5.out⟩, by have := HY2.out.2.2.2.2; simp [intOf]; omega⟩
    · have HR : Hid (cs = R) := Lib.hid (by rw [← hinv.1, hdW_end hlt])
      have hle : ¬ ((k : Int) < (cs.length : Int)) := by omega
      obtain ⟨r0, r1, r2, f0, f1, f2⟩ := hrz.cells
      clear hcv hinv hbel hrz hlt hk hcap3 hx3 hs
      go_wp2_with fail
      obtain ⟨c0, c1, c2⟩ := put3_cells RR.out t p (.slice a3 cs.length c3)
      unfold put3 at c0 c1 c2
      obtain ⟨_, _, _, hpz, hbl⟩ := puz_leaf (t := t) (p := p) HCV.out HBR.out (Nat.le_succ _) hR2
      refine bodyPost_ret (v := .tuple #[.agg #[.int .i64 t, .int .i64 p, .slice a3 cs.length c3], .bool true]) (by simp [results, Try.f17, go_sem, c0, c1, c2]) rfl ⟨_, rfl, ?_, ?_⟩
      · rw [← HR.out]; exact hpz
      · exact hbl

set_option maxRecDepth 100000 in
set_option maxHeartbeats 8000000 in
theorem sHarderPuzzle (t p : Int) (ps : List Pt) (v : Value) (w : World) (hl : ps.length ≤ 1048576) (h : PuzIn w v t p ps) :
    Calls Try.prog 17 #[v] w (RetPuz (ifT (hdB t p ps) t) (ifT (hdB t p ps) p) (hdX t p ps) (hdB t p ps) w) := by
  cases hg : pzB t p ps
  · exact sHard_bad t p ps v w hl h hg
  · cases ho : one1 t p ps
    · exact sHard_not t p ps v w hl h hg ho
    · exact sHard_yes t p ps v w hl h hg ho

theorem hdB_eq (t p : Int) (ps : List Pt) : hdB t p ps = decide ((solR t p ps).length = 1) := by
  unfold hdB one1
  cases h : pzB t p ps
  · rw [solR_no h]; rfl
  · rw [solR_yes h]; rfl
theorem ClsAt.other {w : World} {B b o : Nat} {v x : Value} {qs : List Pt} (h : ClsAt w B v qs) (hne : ∀ g, v.ownBlock = some g → g ≠ b) : ClsAt (w.setCell ⟨b, o, none⟩ x) B v qs := by
  refine ⟨h.1, ?_⟩
  rcases h.2 with h2 | ⟨g, cap, cur, e, h1, h2, h3⟩
  · exact .inl h2
  · exact .inr ⟨g, cap, cur, e, h1, (Below.heap_setCell _ _ _ _ (by simpa using hne g (by rw [e]; rfl))).trans h2, h3⟩
/-- The block of clues set anew. -/
theorem BzF.set2 {w : World} {b : Nat} {t p : Int} {x : Value} (h : BzF w b t p x) (z : Value) : BzF (w.setCell ⟨b, 2, none⟩ z) b t p z := by
  obtain ⟨c0, c1, c2, f0, f1, f2⟩ := h.cells
  refine ⟨⟨⟨(World.cell?_setCell_other _ _ _ _ (by simp)).trans c0, (World.cell?_setCell_other _ _ _ _ (by simp)).trans c1, World.cell?_setCell_same' _ _ _ (by rw [c2]; rfl)⟩, by simpa using h.1.2⟩, fun o => by rw [World.frozen?_setCell]; exact h.2 o⟩
theorem put3_F {w : World} {b : Nat} {x y : Int} {u : Value} (h : BzF w b x y u) (t p : Int) (z : Value) : BzF (put3 w b t p z) b t p z :=
  ⟨⟨put3_cells h t p z, by rw [put3_size]; exact h.1.2⟩, fun o => by unfold put3; rw [World.frozen?_setCell, World.frozen?_setCell, World.frozen?_setCell]; exact h.2 o⟩
theorem Bz.other {w : World} {b b' : Nat} {t p : Int} {x z : Value} (h : Bz w b t p x) (hne : b ≠ b') (o : Nat) : Bz (w.setCell ⟨b', o, none⟩ z) b t p x :=
  h.of (by simp) (Below.heap_setCell _ _ _ _ (by simpa using hne))
theorem BzF.other {w : World} {b b' : Nat} {t p : Int} {x z : Value} (h : BzF w b t p x) (hne : b ≠ b') (o : Nat) : BzF (w.setCell ⟨b', o, none⟩ z) b t p x :=
  ⟨h.1.other hne o, fun o' => by rw [World.frozen?_setCell]; exact h.2 o'⟩

set_option maxRecDepth 100000 in
set_option maxHeartbeats 2000000 in
theorem cloneC_any (ps : List Pt) (b off c : Nat) (w : World) (hl : ps.length ≤ 6) (hx : ClIn w (some ⟨b, off, none⟩) ps) :
    Calls Try.prog 51 #[.slice (some ⟨b, off, none⟩) ps.length c] w (RetCls ps w) := by
  obtain ⟨i0, hi, hi0, hi1, hi2⟩ := info_parts infoCl
  obtain ⟨K, hK⟩ : ∃ K, ps.length = K := ⟨_, rfl⟩
  have HSRC : Hid (∀ W, Below w.heap.size w W → ∀ j u, (ptCells ps)[j]? = some u → W.cell? ((⟨b, off, none⟩ : Addr).add j) = some u) := Lib.hid (fun W hb => clCells_src (hx.keep hb))
  have HPL : Hid ((ptCells ps).length = K * 3) := Lib.hid (by rw [ptCells_length, hK])
  have HP1 := Lib.hid (ptCells_one ps)
  have HCS : Hid (∀ W B v, W.ownsRow B 85 3 v (0 + K) ([] ++ ptCells ps) → ClsAt W B v ps) := Lib.hid (fun W B v h => by
    unfold ClsAt
    rw [hK]
    simpa using h)
  have hm1 : 0 + K ≤ maxLen := by unfold maxLen; omega
  have hm2 : (0 + K) * 24 ≤ 140737488355328 := by omega
  rw [hK]
  clear hx hl hK
  have hne : ∀ W, (binOp .eql 32 (.slice (some ⟨b, off, none⟩) K c) (.slice none 0 0)).run Try.prog W = .ok (.bool false) W := fun _ => by kernel_rfl
  go_enter Try.func51, Try.ntmps51
  go_wp2_with (at_builtin; refine wpList_append_own _ rfl _ _ 32 rfl w.heap.size 85 i0 (.agg #[.int .i64 0, .int .i64 0, .int .i64 0]) 3 24 Try.underlying32 hi hi0 hi1 hi2 rfl (by decide) _ 0 [] rfl (clsAt_lit w _ rfl) ⟨b, off, none⟩ K c (ptCells ps) rfl HPL.out (HSRC.out _ (below_new w _)) HP1.out hm1 hm2 (by simp) ?_; intro v3 w3 hown3 hgrow3 _)
  go_ret
  exact ⟨_, rfl, HCS.out _ _ _ hown3, (below_new w _).grown hgrow3 (by simp) (fun k e => (World.ownsRow.lt (clsAt_lit w 85 rfl) k e).1)⟩

set_option maxRecDepth 100000 in
set_option maxHeartbeats 4000000 in
theorem iHard_no (t p : Int) (ps : List Pt) (v : Value) (w : World) (hl : ps.length ≤ 1048576) (h : PuzIn w v t p ps) (hd : hdB t p ps = false) :
    Calls Try.prog 18 #[v] w (RetPuz (ifT (hdB t p ps) t) (ifT (hdB t p ps) p) (hdX t p ps) (hdB t p ps) w) := by
  have HS := Lib.hid (fun W (hb : Below w.heap.size w W) => iIsSolved t p ps v W hl (h.kept hb))
  obtain ⟨a, c, rfl, hcap, hx⟩ := h.cl
  clear h
  obtain ⟨K, hK⟩ : ∃ K, ps.length = K := ⟨_, rfl⟩
  have hK2 : (K : Int) ≤ 1048576 := by omega
  have HB0 : Hid (Below w.heap.size w ((w.alloc (.cells #[.int .i64 t, .int .i64 p, .slice a K c] 34)).alloc (.cells #[.int .i64 0, .int .i64 0, .slice none 0 0] 34))) := Lib.hid ((below_new w _).alloc (by simp) _)
  have B0 : Hid (Bz ((w.alloc (.cells #[.int .i64 t, .int .i64 p, .slice a K c] 34)).alloc (.cells #[.int .i64 0, .int .i64 0, .slice none 0 0] 34)) w.heap.size t p (.slice a K c)) := Lib.hid ((Bz.new _ _ _ _ _).grow _)
  have R0 : Hid (BzF ((w.alloc (.cells #[.int .i64 t, .int .i64 p, .slice a K c] 34)).alloc (.cells #[.int .i64 0, .int .i64 0, .slice none 0 0] 34)) (w.heap.size + 1) 0 0 (.slice none 0 0)) := Lib.hid (BzF.new _ _ _ _ _ (by simp))
  have HD : Hid (hdB t p ps = (pzB t p ps && one1 t p ps)) := Lib.hid rfl
  have HX : Hid (hdX t p ps = if hdB t p ps = true then hdW t p ps 0 else []) := Lib.hid rfl
  have HXF : Hid (hdX t p ps = []) := Lib.hid (by rw [HX.out, hd]; rfl)
  rw [HXF.out]
  rw [← hdB_eq, hd] at HS
  rw [hd]
  generalize pzB t p ps = ok at HS
  rw [hK] at HS ⊢
  clear hx hcap hl hK HD HX hd
  go_enter Try.func18, Try.ntmps18
  go_wp2_with fail
  refine (HS.out _ HB0.out).mono ?_
  rintro e w1 ⟨rfl, hb1⟩
  have B1 := Lib.hid (B0.out.kept hb1); have R1 := Lib.hid (R0.out.kept hb1); have HB1 := Lib.hid (HB0.out.trans (hb1.mono HB0.out.size)); clear hb1; obtain ⟨⟨p0, p1, p2⟩, p3⟩ := B1.out; obtain ⟨r0, r1, r2, f0, f1, f2⟩ := R1.out.cells
  go_wp2_with fail
  obtain ⟨c0, c1, c2⟩ := put3_cells R1.out 0 0 (.slice none 0 0)
  unfold put3 at c0 c1 c2
  refine bodyPost_ret (v := .tuple #[.agg #[.int .i64 0, .int .i64 0, .slice none 0 0], .bool false]) (by simp [results, Try.f18, go_sem, c0, c1, c2]) rfl ⟨_, rfl, ?_, ?_⟩
  · exact (puz_none HB1.out (Nat.le_succ _)).1
  · exact (puz_none HB1.out (Nat.le_succ _)).2

set_option maxRecDepth 100000 in
set_option maxHeartbeats 8000000 in
theorem iHard_yes (t p : Int) (ps : List Pt) (v : Value) (w : World) (hl : ps.length ≤ 1048576) (h : PuzIn w v t p ps) (hd : hdB t p ps = true) :
    Calls Try.prog 18 #[v] w (RetPuz (ifT (hdB t p ps) t) (ifT (hdB t p ps) p) (hdX t p ps) (hdB t p ps) w) := by
  have HS := Lib.hid (fun W (hb : Below w.heap.size w W) => iIsSolved t p ps v W hl (h.kept hb))
  obtain ⟨a, c, rfl, hcap, hx⟩ := h.cl
  clear h
  obtain ⟨K, hK⟩ : ∃ K, ps.length = K := ⟨_, rfl⟩
  have hK2 : (K : Int) ≤ 1048576 := by omega
  have HB0 : Hid (Below w.heap.size w ((w.alloc (.cells #[.int .i64 t, .int .i64 p, .slice a K c] 34)).alloc (.cells #[.int .i64 0, .int .i64 0, .slice none 0 0] 34))) := Lib.hid ((below_new w _).alloc (by simp) _)
  have B0 : Hid (Bz ((w.alloc (.cells #[.int .i64 t, .int .i64 p, .slice a K c] 34)).alloc (.cells #[.int .i64 0, .int .i64 0, .slice none 0 0] 34)) w.heap.size t p (.slice a K c)) := Lib.hid ((Bz.new _ _ _ _ _).grow _)
  have R0 : Hid (BzF ((w.alloc (.cells #[.int .i64 t, .int .i64 p, .slice a K c] 34)).alloc (.cells #[.int .i64 0, .int .i64 0, .slice none 0 0] 34)) (w.heap.size + 1) 0 0 (.slice none 0 0)) := Lib.hid (BzF.new _ _ _ _ _ (by simp))
  have HD : Hid (hdB t p ps = (pzB t p ps && one1 t p ps)) := Lib.hid rfl
  have HX : Hid (hdX t p ps = if hdB t p ps = true then hdW t p ps 0 else []) := Lib.hid rfl
  have HXF : Hid (hdX t p ps = hdW t p ps 0) := Lib.hid (by rw [HX.out, hd]; rfl)
  have HT : Hid (∀ x, ifT true x = x) := Lib.hid (fun x => rfl)
  obtain ⟨hg, ho⟩ : pzB t p ps = true ∧ one1 t p ps = true := by simpa [hdB] using hd
  obtain ⟨g1, g2, g3⟩ := pzB_iff.1 hg
  have hpos : 0 < ps.length := by
    rcases Nat.eq_zero_or_pos ps.length with e | e
    · have e2 : ps = [] := List.eq_nil_of_length_eq_zero e
      subst e2
      have e3 := solA_nil t p
      simp [one1, e3] at ho
    · exact e
  obtain ⟨b, off, rfl, hbl, _⟩ := hx 0 hpos
  rw [HXF.out]
  rw [← hdB_eq, hd] at HS
  rw [hd, HT.out, HT.out]
  have HCL := Lib.hid (fun W (hb : Below w.heap.size w W) => cloneC_any ps b off c W g2 (hx.keep hb))
  have HWO := Lib.hid (fun W cs k a' c' (hll : cs.length ≤ 6) (hk : k < cs.length) (hc : cs.length ≤ c' ∧ c' ≤ maxLen) (hxx : ClIn W a' cs) => cluesWithout_any t p cs k a' c' W hll hk hc hxx)
  have HFT := Lib.hid (fun W u cs a' c' (hcl : cs.all clB = true) (hll : cs.length ≤ 6) (hc : ClIn W a' cs) => fitting_any t p u cs a' c' W hcl hll hc)
  generalize pzB t p ps = ok at HS
  obtain ⟨R, hR⟩ : ∃ R, hdW t p ps 0 = R := ⟨_, rfl⟩
  have HINV0 : Hid (hdW t p ps 0 = R ∧ ps.all clB = true ∧ ps.length ≤ 6) := Lib.hid ⟨hR, g3, g2⟩
  rw [hR]
  rw [hK] at HS HCL ⊢
  clear hx hcap hl hK HD HX hd g1 g2 g3 ho hpos hbl hR hg HXF
  go_enter Try.func18, Try.ntmps18
  go_wp2_with fail
  refine (HS.out _ HB0.out).mono ?_
  rintro e w1 ⟨rfl, hb1⟩
  have B1 := Lib.hid (B0.out.kept hb1); have R1 := Lib.hid (R0.out.kept hb1); have HB1 := Lib.hid (HB0.out.trans (hb1.mono HB0.out.size)); clear hb1; obtain ⟨⟨p0, p1, p2⟩, p3⟩ := B1.out; obtain ⟨r0, r1, r2, f0, f1, f2⟩ := R1.out.cells
  have hz1 : w.heap.size + 1 < w1.heap.size := R1.out.1.2
  have hn1 : ¬ (w1.heap.size = w.heap.size) := by omega
  have hn2 : ¬ (w.heap.size = w1.heap.size) := by omega
  clear r0 r1 r2 f0 f1 f2
  go_upto_region 4 with fail
  go_cut [6] from 17 to 22 (fun s6 wx => ∃ b6 v6, s6 = .pointer (some ⟨b6, 0, none⟩) ∧ Hid (BzF wx b6 t p v6 ∧ w1.heap.size ≤ b6) ∧ Hid (ClsAt wx w1.heap.size v6 ps ∧ ∀ g, v6.ownBlock = some g → g ≠ b6) ∧ Hid (Below w1.heap.size w1 wx))
  case first =>
    go_region_held3 (fun w' => w'.cell? ⟨w.heap.size, 0, none⟩ = some (.int .i64 t) ∧ w'.cell? ⟨w.heap.size, 1, none⟩ = some (.int .i64 p) ∧ w'.cell? ⟨w.heap.size, 2, none⟩ = some (.slice (some ⟨b, off, none⟩) K c)) (go_keep)
      ((go_at_call 51; refine (HCL.out _ (by first | exact HB1.out | exact HB1.out.drew | exact HB1.out.trans ((below_new w1 _).mono HB1.out.size) | exact (HB1.out.trans ((below_new w1 _).mono HB1.out.size)).drew | exact HB1.out.drew.trans ((below_new w1.drew _).mono HB1.out.drew.size) | exact (HB1.out.drew.trans ((below_new w1.drew _).mono HB1.out.drew.size)).drew)).mono ?_; rintro e w5 ⟨v5, rfl, hv5, hb5⟩; have HV5 := Lib.hid hv5; have HB5 := Lib.hid hb5; have h15 : Below w1.heap.size w1 w5 := (by first | exact hb5 | exact (Below.refl _ _).drew.trans hb5 | exact (below_new w1 _).trans (hb5.mono (by simp)) | exact (below_new w1 _).drew.trans (hb5.mono (by simp)) | exact ((Below.refl _ _).drew.trans (below_new w1.drew _)).trans (hb5.mono (by simp)) | exact ((Below.refl _ _).drew.trans (below_new w1.drew _)).drew.trans (hb5.mono (by simp))); have H15 := Lib.hid h15; obtain ⟨⟨s0, s1, s2⟩, s3⟩ := (B1.out.kept h15); clear hv5 hb5 h15; have hz5 : w.heap.size < w5.heap.size := s3; have hn5 : ¬ (w5.heap.size = w.heap.size) := (by omega); have hn6 : ¬ (w.heap.size = w5.heap.size) := (by omega); obtain ⟨a5, c5, e5, _⟩ := HV5.out.row; subst e5; first | (have HT3 : Hid (BzF w5 w1.heap.size 0 0 (.slice none 0 0)) := Lib.hid (BzF.kept (BzF.new w1 0 0 (.slice none 0 0) 34 rfl) (by first | exact HB5.out | exact (Below.refl _ _).drew.trans HB5.out)); obtain ⟨x0, x1, x2, x3, x4, x5⟩ := HT3.out.cells) | (have HT3 : Hid (BzF w5 w1.heap.size 0 0 (.slice none 0 0)) := Lib.hid (BzF.kept (BzF.new w1.drew 0 0 (.slice none 0 0) 34 rfl) (by first | exact HB5.out | exact (Below.refl _ _).drew.trans HB5.out)); obtain ⟨x0, x1, x2, x3, x4, x5⟩ := HT3.out.cells) | skip))
    all_goals
      go_wp2_with fail
      go_meet
      case rel =>
        first
          | exact ⟨w5.heap.size, _, rfl, Lib.hid ⟨BzF.new w5 t p _ 34 rfl, H15.out.size⟩, Lib.hid ⟨ownsRow_base (ownsRow_kept HV5.out (below_new w5 _)) (by first | exact Nat.le_refl _ | (simp; done) | (simp; omega)), fun g e => Nat.ne_of_lt (World.ownsRow.lt HV5.out g e).2⟩, Lib.hid (by first | exact H15.out.alloc H15.out.size _ | exact (H15.out.alloc H15.out.size _).drew)⟩
          | exact ⟨w1.heap.size, _, rfl, Lib.hid ⟨put3_F HT3.out t p _, Nat.le_refl _⟩, Lib.hid ⟨ownsRow_base (((HV5.out.other (fun g e => Nat.ne_of_gt (Nat.lt_of_lt_of_le (by first | (simp; done) | (simp; omega)) (World.ownsRow.lt HV5.out g e).1))).other (fun g e => Nat.ne_of_gt (Nat.lt_of_lt_of_le (by first | (simp; done) | (simp; omega)) (World.ownsRow.lt HV5.out g e).1))).other (fun g e => Nat.ne_of_gt (Nat.lt_of_lt_of_le (by first | (simp; done) | (simp; omega)) (World.ownsRow.lt HV5.out g e).1))) (by first | (simp; done) | (simp; omega)), fun g e => Nat.ne_of_gt (Nat.lt_of_lt_of_le (by first | (simp; done) | (simp; omega)) (World.ownsRow.lt HV5.out g e).1)⟩, Lib.hid (put3_below H15.out (Nat.le_refl _) _ _ _)⟩
  case rest =>
  obtain ⟨b6, v6, rfl, HX6, HV6, HBC⟩ := hcut
  have BC := Lib.hid (B1.out.kept HBC.out)
  have RC := Lib.hid (R1.out.kept HBC.out)
  have HBCC := Lib.hid (HB1.out.trans (HBC.out.mono HB1.out.size))
  have HSC := Lib.hid HBC.out.size
  have h6lo := HX6.out.2
  have h60 : b6 ≠ w.heap.size := by omega
  have h61 : b6 ≠ w.heap.size + 1 := by omega
  have h62 : ¬ (w.heap.size = b6) := by omega
  have h63 : ¬ (w.heap.size + 1 = b6) := by omega
  clear p0 p1 p2 p3 hn1 hn2
  go_wp2_with fail
  go_loopw [7] (fun kv wr => ∃ (cs : List Pt) (k : Nat) (v6 : Value), k ≤ cs.length ∧ kv = .int .i64 k ∧ BzF wr b6 t p v6 ∧ (ClsAt wr w1.heap.size v6 cs ∧ ∀ g, v6.ownBlock = some g → g ≠ b6) ∧ (hdW t p cs k = R ∧ cs.all clB = true ∧ cs.length ≤ 6) ∧ Bz wr w.heap.size t p (.slice (some ⟨b, off, none⟩) K c) ∧ BzF wr (w.heap.size + 1) 0 0 (.slice none 0 0) ∧ (Below w.heap.size w wr ∧ w1.heap.size ≤ wr.heap.size)) (fun kv wr => (match wr.cell? ⟨b6, 2, none⟩ with | some (.slice _ n _) => n | _ => 0) - (intOf kv).toNat)
  case atStart => exact ⟨ps, 0, v6, Nat.zero_le _, rfl, HX6.out.1, HV6.out, HINV0.out, BC.out, RC.out, HBCC.out, HSC.out⟩
  case round =>
    clear HX6 HV6 HINV0 BC RC HBCC HSC
    obtain ⟨cs, k, v7, hk, rfl, hbx, ⟨hcv, hcn⟩, hinv, hbz, hrz, hbel, hs⟩ := hrel
    obtain ⟨a3, c3, rfl, hcap3, hx3⟩ := hcv.cl
    have HCV := Lib.hid hcv
    have HCN := Lib.hid hcn
    have HINV := Lib.hid hinv
    have BX := Lib.hid hbx
    have BR := Lib.hid hbz
    have RR := Lib.hid hrz
    have HBR := Lib.hid hbel
    have HS' := Lib.hid hs
    obtain ⟨q0, q1, q2, qf0, qf1, qf2⟩ := hbx.cells
    have hq3 := hbx.1.2
    have HQ2 := Lib.hid q2
    clear hbx hcn
    by_cases hlt : k < cs.length
    · have hle : (k : Int) < (cs.length : Int) := by omega
      have hk6 : (k : Int) ≤ 6 := by have := hinv.2.2; omega
      have HWK := Lib.hid (HWO.out wr cs k a3 c3 hinv.2.2 hlt hcap3 hx3)
      have HSK := Lib.hid (fun W u a' c' hc => HFT.out W u (clW cs k) a' c' (clW_all k HINV.out.2.1) (by rw [clW_length hlt]; have := HINV.out.2.2; omega) hc)
      have HY : Hid (one1 t p (clW cs k) = true → hdW t p (clW cs k) k = R ∧ (clW cs k).all clB = true ∧ (clW cs k).length ≤ 6 ∧ k ≤ (clW cs k).length ∧ (clW cs k).length + 1 = cs.length) := Lib.hid (fun h1 => ⟨by rw [← hdW_yes hlt h1]; exact HINV.out.1, clW_all k HINV.out.2.1, by rw [clW_length hlt]; have := HINV.out.2.2; omega, by rw [clW_length hlt]; omega, by rw [clW_length hlt]; omega⟩)
      have HN : Hid (one1 t p (clW cs k) = false → hdW t p cs (k + 1) = R) := Lib.hid (fun h1 => by rw [← hdW_no hlt h1]; exact HINV.out.1)
      have HO1 : Hid (one1 t p (clW cs k) = (((solA t p (clW cs k)).length : Int) == 1)) := Lib.hid (by unfold one1; rw [Bool.eq_iff_iff]; simp; omega)
      generalize clW cs k = cw at HWK HSK HY HN HO1
      generalize solA t p cw = sl at HSK HO1
      clear hcv hinv hbel hrz hcap3 hx3 hs hbz
      go_wp2_with fail
      refine HWK.out.mono ?_
      rintro e w4 ⟨v4, rfl, hv4, hb4⟩
      obtain ⟨a4, c4, rfl, hcap4, hx4⟩ := hv4.cl
      have HV4 := Lib.hid hv4
      have HX4 := Lib.hid hx4
      have B4 := Lib.hid (BR.out.kept hb4)
      have R4 := Lib.hid (RR.out.kept hb4)
      have X4 := Lib.hid (BX.out.kept hb4)
      have HB4 := Lib.hid (HBR.out.trans (hb4.mono HBR.out.size))
      have HC4 := Lib.hid (show ClsAt w4 w1.heap.size _ cs from ownsRow_kept HCV.out hb4)
      have HS4 := Lib.hid hb4.size
      clear hv4 hb4 hx4 hcap4 q0 q1 q2 qf0 qf1 qf2
      obtain ⟨⟨p0, p1, p2⟩, p3⟩ := B4.out
      go_wp2_with fail
      refine (HSK.out _ _ _ _ HX4.out).mono ?_
      rintro e w5 ⟨v5, rfl, hr5, hb5⟩
      obtain ⟨a5, c5, rfl⟩ := hr5.form
      have B5 := Lib.hid (B4.out.kept hb5)
      have R5 := Lib.hid (R4.out.kept hb5)
      have X5 := Lib.hid (X4.out.kept hb5)
      have HB5 := Lib.hid (HB4.out.trans (hb5.mono HB4.out.size))
      have HC5 := Lib.hid (show ClsAt w5 w1.heap.size _ cs from ownsRow_kept HC4.out hb5)
      have HV5 := Lib.hid (show ClsAt w5 wr.heap.size _ cw from ownsRow_kept HV4.out hb5)
      have HS5 := Lib.hid (Nat.le_trans HS4.out hb5.size)
      clear hb5 hr5 p0 p1 p2 p3
      obtain ⟨y0, y1, y2, yf0, yf1, yf2⟩ := X5.out.cells
      cases h1 : one1 t p cw
      · have HN2 := Lib.hid (HN.out h1)
        have hne1 : ((sl.length : Int) == 1) = false := by rw [← HO1.out]; exact h1
        have HY2 := Lib.hid y2
        clear HY HN h1
        go_wp2_with fail
        exact ⟨⟨cs, k + 1, _, hlt, by go_num, X5.out, ⟨HC5.out, HCN.out⟩, ⟨HN2.out, HINV.out.2⟩, B5.out, R5.out, HB5.out, Nat.le_trans HS'.out HS5.out⟩, by rw [HY2.out, HQ2.out]; simp [intOf]; omega⟩
      · have HY2 := Lib.hid (HY.out h1)
        have hne1 : ((sl.length : Int) == 1) = true := by rw [← HO1.out]; exact h1
        have HNE : Hid (∀ g, (Value.slice a4 cw.length c4).ownBlock = some g → g ≠ b6) := Lib.hid (fun g e => Nat.ne_of_gt (Nat.lt_of_lt_of_le hq3 (World.ownsRow.lt HV5.out g e).1))
        have HX52 := Lib.hid (X5.out.set2 (.slice a4 cw.length c4))
        clear HY HN h1
        go_wp2_with fail
        exact ⟨⟨cw, k, _, HY2.out.2.2.2.1, rfl, HX52.out, ⟨ownsRow_base (HV5.out.other HNE.out) HS'.out, HNE.out⟩, ⟨HY2.out.1, HY2.out.2.1, HY2.out.2.2.1⟩, B5.out.other (by omega) _, R5.out.other (by omega) _, HB5.out.setCell (p := ⟨b6, 2, none⟩) (by simp; omega) _, by simpa using Nat.le_trans HS'.out HS5.out⟩, by rw [HX52.out.1.1.2.2, HQ2.out]; have := HY2.out.2.2.2.2; simp [intOf]; omega⟩
    · have HR : Hid (cs = R) := Lib.hid (by rw [← hinv.1, hdW_end hlt])
      have hle : ¬ ((k : Int) < (cs.length : Int)) := by omega
      obtain ⟨r0, r1, r2, f0, f1, f2⟩ := hrz.cells
      clear hcv hinv hbel hrz hlt hk hcap3 hx3 hs hbz
      go_wp2_with fail
      obtain ⟨c0, c1, c2⟩ := put3_cells RR.out t p (.slice a3 cs.length c3)
      unfold put3 at c0 c1 c2
      obtain ⟨_, _, _, hpz, hbl⟩ := puz_leaf (t := t) (p := p) HCV.out HBR.out (Nat.le_succ _) hz1
      refine bodyPost_ret (v := .tuple #[.agg #[.int .i64 t, .int .i64 p, .slice a3 cs.length c3], .bool true]) (by simp [results, Try.f18, go_sem, c0, c1, c2]) rfl ⟨_, rfl, ?_, ?_⟩
      · rw [← HR.out]; exact hpz
      · exact hbl

theorem iHarderPuzzle (t p : Int) (ps : List Pt) (v : Value) (w : World) (hl : ps.length ≤ 1048576) (h : PuzIn w v t p ps) :
    Calls Try.prog 18 #[v] w (RetPuz (ifT (hdB t p ps) t) (ifT (hdB t p ps) p) (hdX t p ps) (hdB t p ps) w) := by
  cases hd : hdB t p ps
  · have := iHard_no t p ps v w hl h hd
    rw [hd] at this
    exact this
  · have := iHard_yes t p ps v w hl h hd
    rw [hd] at this
    exact this
end Go.Proofs.Ytjnghlnhogalbaa
