/-
  'readPuzzle' (gen_rdz.py).
-/
import Derived.Test.YtgobjobppajkbaaDoorClO
import Derived.Test.YtgobjobppajkbaaDoorPpM
namespace Go.Proofs.YtgobjobppajkbaaDoor
open Go.RowKit Go.Shelf
attribute [local go_sem] Oper.semAt_some
set_option linter.unusedVariables false

theorem infoClZ : (Tryd.prog.info? 93).map (fun i => (i.zero, i.size, i.bytes)) = some (some (.agg #[.int .i64 0, .int .i64 0, .int .i64 0]), 3, 24) := by kernel_rfl
/-- What is read of the pieces. -/
def rdZ (pre : List ByteArray) : List Pt := pre.map fun x => pcC x.data.toList
theorem rdZ_snoc (pre : List ByteArray) (x : ByteArray) : rdZ (pre ++ [x]) = rdZ pre ++ [pcC x.data.toList] := by simp [rdZ]
theorem rdZ_len (pre : List ByteArray) : (rdZ pre).length = pre.length := by simp [rdZ]
theorem rdZ_all {m : List UInt8} (h : m ≠ []) : rdZ (spB 44 (byt m)) = pcL m := by
  rw [pcL, if_neg h, rdZ, spB, List.map_map]
  rfl
theorem bzF_ofZ {w w' : World} {b : Nat} {t p : Int} {x : Value} (h : BzF w b t p x) (hs : w.heap.size ≤ w'.heap.size) (he : w'.heap[b]? = w.heap[b]?) : BzF w' b t p x := ⟨h.1.of hs he, fun o => (World.frozen?_of_block (a := ⟨b, o, none⟩) he).trans (h.2 o)⟩
theorem leafZ {w4 wa w5 : World} {P B : Nat} {t p : Int} {u v5 : Value} {qs : List Pt} {q : Pt} (h : ClsAt w4 B u qs) (hx : BzF w4 P t p u) (hPB : P < B) (hB : B ≤ w4.heap.size) (hba : Below w4.heap.size w4 wa)
    (hown : w5.ownsRow B 93 3 v5 (qs.length + 1) (ptCells qs ++ [.int .i64 q.1, .int .i64 q.2.1, .int .i64 q.2.2])) (hg : (wa.alloc (.cells #[.int .i64 q.1, .int .i64 q.2.1, .int .i64 q.2.2] 93)).grownBy w5 u.ownBlock) :
    ClsAt w5 B v5 (qs ++ [q]) ∧ BzF w5 P t p u ∧ KpA B P w4 w5 := by
  have hb : Below w4.heap.size w4 (wa.alloc (.cells #[.int .i64 q.1, .int .i64 q.2.1, .int .i64 q.2.2] 93)) := hba.trans ((below_alloc wa _).mono hba.size)
  have hz := hb.size
  have hlt := hx.1.2
  have hr : ∀ k, u.ownBlock = some k → B ≤ k := fun k e => (World.ownsRow.lt h k e).1
  refine ⟨?_, bzF_ofZ hx (Nat.le_trans hz hg.size) ((hg.block P (by omega) (fun e => by have := hr P e.symm; omega)).trans (hb.block P hlt)), (KpA.of_below hb hB).trans (KpA.grown hg (by omega) hr)⟩
  unfold ClsAt
  rw [ptCells_snoc, List.length_append]
  exact hown
theorem clsZ_puz {w : World} {B lo : Nat} {v : Value} {qs : List Pt} (h : ClsAt w B v qs) (hl : lo ≤ B) (t p : Int) : PuzAt w lo w.heap.size (.agg #[.int .i64 t, .int .i64 p, v]) t p qs := by
  obtain ⟨a, c, rfl, h1, h2⟩ := h.row
  exact ⟨Nat.le_refl _, a, c, rfl, h1, h2.wide hl (Nat.le_refl _)⟩
theorem puzZ_nil (w : World) (B : Nat) (t p : Int) : PuzAt w B w.heap.size (.agg #[.int .i64 t, .int .i64 p, .slice none 0 0]) t p [] := ⟨Nat.le_refl _, none, 0, rfl, ⟨Nat.le_refl _, Nat.zero_le _⟩, fun h => (h rfl).elim⟩
theorem cutL_any (c : UInt8) (l : List UInt8) (hl : l.length ≤ 1048576) (w : World) :
    Calls Tryd.prog 84 #[.string (byt l), .string ⟨#[c]⟩] w fun e w' => e = .returned (.tuple #[.string (byt (cu1 c l)), .string (byt (cu2 c l)), .bool (Lib.cut l [c]).2.2]) ∧ Below w.heap.size w w' :=
  cutP_any c (byt l) (by simp [byt, ByteArray.size]; omega) w

set_option maxRecDepth 100000 in
set_option maxHeartbeats 4000000 in
theorem readPuzzle_none (l : List UInt8) (hl : l.length ≤ 1048576) (hc : cu2 58 l = []) (w : World) (hw : Set3 w) :
    Calls Tryd.prog 68 #[.string (byt l)] w fun e w' => ∃ v, e = .returned v ∧ PuzAt w' w.heap.size w'.heap.size v (ppT l) (ppP l) [] ∧ Below w.heap.size w w' := by
  have HW := Lib.hid hw
  have h1 := cu1_len 58 l
  have HC := Lib.hid (fun W => cutL_any 58 l hl W)
  have HM := Lib.hid (fun W hW => readMap_any (byt (cu1 58 l)) (by simp [byt, ByteArray.size]; omega) W hW)
  rw [hc] at HC
  have eT : (rdm (byt (cu1 58 l))).1 = ppT l := rfl
  have eP : (rdm (byt (cu1 58 l))).2 = ppP l := rfl
  rw [eT, eP] at HM
  generalize ppT l = t at *
  generalize ppP l = p at *
  generalize cu1 58 l = c1 at *
  generalize (Lib.cut l [58]).2.2 = t3 at *
  have HB := Lib.hid (below_alloc w (.cells #[.int .i64 0, .int .i64 0, .slice none 0 0] 55))
  have HR := Lib.hid (BzF.new w 0 0 (.slice none 0 0) 55 rfl)
  have he : ((byt []).toList == []) = true := by rw [show (byt []).toList = [] from ByteArray.toList_eq _]; rfl
  clear hc hw hl h1 eT eP
  go_enter Tryd.func68, Tryd.ntmps68
  go_wp2_with fail
  refine (HC.out _).mono ?_
  rintro e w1 ⟨rfl, hb1⟩
  replace HR := Lib.hid (HR.out.kept hb1)
  replace HB := Lib.hid (HB.out.trans (hb1.mono HB.out.size))
  clear hb1
  go_wp2_with fail
  refine (HM.out _ (HW.out.below HB.out)).mono ?_
  rintro e w2 ⟨rfl, hb2⟩
  replace HR := Lib.hid (HR.out.kept hb2)
  replace HB := Lib.hid (HB.out.trans (hb2.mono HB.out.size))
  clear hb2
  have hne : ¬ w2.heap.size = w.heap.size := by have := HR.out.1.2; omega
  have hne2 : ¬ w.heap.size = w2.heap.size := by omega
  replace HR := Lib.hid (HR.out.kept (below_alloc w2 (.cells #[.int .i64 t, .int .i64 p, .slice none 0 0] 55)))
  replace HB := Lib.hid (HB.out.trans ((below_alloc w2 (.cells #[.int .i64 t, .int .i64 p, .slice none 0 0] 55)).mono HB.out.size))
  obtain ⟨r0, r1, r2, f0, f1, f2⟩ := HR.out.cells
  have hRl := HR.out.1.2
  go_wp2_with fail
  obtain ⟨g0, g1, g2⟩ := put3_cells HR.out t p (.slice none 0 0)
  unfold put3 at g0 g1 g2
  refine bodyPost_ret (v := .agg #[.int .i64 t, .int .i64 p, .slice none 0 0]) (by simp [results, Tryd.f68, go_sem, g0, g1, g2]) rfl ⟨_, rfl, puzZ_nil _ _ _ _, ?_⟩
  exact put3_below HB.out (Nat.le_refl _) _ _ _

set_option maxRecDepth 100000 in
set_option maxHeartbeats 8000000 in
theorem readPuzzle_some (l m : List UInt8) (hl : l.length ≤ 1048576) (hm : cu2 58 l = m) (hne : m ≠ []) (w : World) (hw : Set3 w) :
    Calls Tryd.prog 68 #[.string (byt l)] w fun e w' => ∃ v, e = .returned v ∧ PuzAt w' w.heap.size w'.heap.size v (ppT l) (ppP l) (pcL m) ∧ Below w.heap.size w w' := by
  have HW := Lib.hid hw
  have h1 := cu1_len 58 l
  have h2 := cu2_len 58 l
  rw [hm] at h2
  have hs : (byt m).size ≤ 1048576 := by rw [byt_size]; omega
  have hit := fun bs b bv h1 h2 => iter_split bs b bv h1 h2 44 (byt m) hs
  have HSL := Lib.hid (spB_len 44 (byt m))
  have HSM := Lib.hid (spB_mem 44 (byt m))
  have HS := Lib.hid hs
  have HALL := Lib.hid (rdZ_all hne)
  obtain ⟨i0, hi, hi0, hi1, hi2⟩ := info_parts infoClZ
  have HSP := Lib.hid (fun W => splitSeq_any (byt m) ⟨#[44]⟩ W)
  have HC := Lib.hid (fun W => cutL_any 58 l hl W)
  have HM := Lib.hid (fun W hW => readMap_any (byt (cu1 58 l)) (by simp [byt, ByteArray.size]; omega) W hW)
  rw [hm] at HC
  have eT : (rdm (byt (cu1 58 l))).1 = ppT l := rfl
  have eP : (rdm (byt (cu1 58 l))).2 = ppP l := rfl
  rw [eT, eP] at HM
  generalize ppT l = t at *
  generalize ppP l = p at *
  generalize cu1 58 l = c1 at *
  generalize (Lib.cut l [58]).2.2 = t3 at *
  have he : ((byt m).toList == []) = false := by
    have := str_ne (a := byt m) (b := byt []) (fun e => hne (byt_injP e))
    rwa [show (byt []).toList = [] from ByteArray.toList_eq _] at this
  have HB := Lib.hid (below_alloc w (.cells #[.int .i64 0, .int .i64 0, .slice none 0 0] 55))
  have HR := Lib.hid (BzF.new w 0 0 (.slice none 0 0) 55 rfl)
  clear hw hm hne h1 h2 eT eP hl
  generalize hsb : byt m = s at *
  refine (callsIn_wide (n := 10)).1 ?_
  refine callsIn_of_wp_marks Tryd.func68 rfl trivial ?_ rfl
  simp only [Tryd.ntmps68, List.size_toArray, List.length_cons, List.length_nil, Nat.reduceAdd, Nat.reduceSub, Array.replicate_succ, Array.replicate_zero, List.push_toArray, List.append_toArray, List.nil_append, List.cons_append]
  gi_wp2_with (refine ⟨trivial, ?_⟩; gi_at_call 84; refine (callsIn_wide.2 (HC.out _)).mono ?_; rintro e w1 ⟨rfl, hb1⟩)
  replace HR := Lib.hid (HR.out.kept hb1)
  replace HB := Lib.hid (HB.out.trans (hb1.mono HB.out.size))
  clear hb1
  gi_wp2_with (refine ⟨trivial, ?_⟩; gi_at_call 106; refine (callsIn_wide.2 (HM.out _ (HW.out.below HB.out))).mono ?_; rintro e w2 ⟨rfl, hb2⟩)
  have hRP : w.heap.size < w2.heap.size := (HR.out.kept hb2).1.2
  replace HR := Lib.hid ((HR.out.kept hb2).kept (below_alloc w2 (.cells #[.int .i64 t, .int .i64 p, .slice none 0 0] 55)))
  replace HB := Lib.hid ((HB.out.trans (hb2.mono HB.out.size)).trans ((below_alloc w2 (.cells #[.int .i64 t, .int .i64 p, .slice none 0 0] 55)).mono (HB.out.trans (hb2.mono HB.out.size)).size))
  clear hb2
  gi_wp2_with (refine ⟨trivial, ?_⟩; gi_at_call 83; refine (callsIn_wide.2 (HSP.out _)).mono ?_; rintro e w3 ⟨rfl, rfl⟩)
  have hbel : Below w.heap.size w ((((w2.alloc (.cells #[.int .i64 t, .int .i64 p, .slice none 0 0] 55)).alloc (.cells #[.string s] 9)).alloc (.cells #[.string ⟨#[44]⟩] 9)).alloc (.cells #[.int .i64 0] 3)) := by
    refine (((HB.out).alloc ?_ _).alloc ?_ _).alloc ?_ _ <;> simp <;> omega
  have hbR : BzF ((((w2.alloc (.cells #[.int .i64 t, .int .i64 p, .slice none 0 0] 55)).alloc (.cells #[.string s] 9)).alloc (.cells #[.string ⟨#[44]⟩] 9)).alloc (.cells #[.int .i64 0] 3)) w.heap.size 0 0 (.slice none 0 0) := by
    refine HR.out.kept2 ((((Below.refl (w.heap.size + 1) _).alloc ?_ _).alloc ?_ _).alloc ?_ _) (Nat.lt_succ_self _) <;> simp <;> omega
  have hbP : BzF ((((w2.alloc (.cells #[.int .i64 t, .int .i64 p, .slice none 0 0] 55)).alloc (.cells #[.string s] 9)).alloc (.cells #[.string ⟨#[44]⟩] 9)).alloc (.cells #[.int .i64 0] 3)) w2.heap.size t p (.slice none 0 0) := by
    refine (BzF.new w2 t p (.slice none 0 0) 55 rfl).kept2 (n := w2.heap.size + 1) ((((Below.refl _ _).alloc ?_ _).alloc ?_ _).alloc ?_ _) (Nat.lt_succ_self _) <;> simp <;> omega
  have hcap : CapS (w2.heap.size + 1 + 1) (w2.heap.size + 1) (w2.heap.size + 1 + 1 + 1) 44 s [] ((((w2.alloc (.cells #[.int .i64 t, .int .i64 p, .slice none 0 0] 55)).alloc (.cells #[.string s] 9)).alloc (.cells #[.string ⟨#[44]⟩] 9)).alloc (.cells #[.int .i64 0] 3)) := by
    refine ⟨?_, ?_, ?_, fun _ => ?_, ?_, ?_, ?_⟩ <;> first | (go_simp; done) | (simp; omega)
  generalize hw3 : ((((w2.alloc (.cells #[.int .i64 t, .int .i64 p, .slice none 0 0] 55)).alloc (.cells #[.string s] 9)).alloc (.cells #[.string ⟨#[44]⟩] 9)).alloc (.cells #[.int .i64 0] 3)) = w3 at *
  have hs1 : w3.heap.size = w2.heap.size + 4 := by rw [← hw3]; simp
  clear hw3 HR HB HSP HC HM
  generalize w2.heap.size = P at *
  have hs2 : P + 4 ≤ w3.heap.size := by omega
  have hs3 : w3.heap.size ≤ P + 4 := by omega
  clear hs1
  refine wpIn_seqB (gf := 132) (lb := #[.pointer (some ⟨P + 1 + 1, 0, none⟩), .pointer (some ⟨P + 1, 0, none⟩), .pointer (some ⟨P + 1 + 1 + 1, 0, none⟩)]) rfl (enters_of Tryd.func132 (by kernel_rfl) rfl) (b := P + 1) (by omega)
    (hit _ _ _ (by omega) (by omega)) (fun s A C h hb => h.below (by omega) (by omega) (by omega) hb) hcap rfl
    (fun pre W => Below w.heap.size w W ∧ BzF W w.heap.size 0 0 (.slice none 0 0) ∧ ∃ u, BzF W P t p u ∧ ClsAt W (P + 6) u (rdZ pre))
    (fun _ _ _ => False)
    ?hI (fun _ _ _ _ h => h.elim) ?hIb (fun _ _ _ _ h => h.elim) ⟨hbel, hbR, _, hbP, clsAt_nil _ _⟩
    (fun x => { tmps := #[.string (byt l), undef, .pointer (some ⟨w.heap.size, 0, none⟩), .string (byt c1), .string s, .bool t3, .pointer (some ⟨P, 0, none⟩), .string x, undef, undef, undef, undef, undef, undef, .tuple #[.string (byt c1), .string s, .bool t3], .string (byt l), .tuple #[.string (byt c1), .string s, .bool t3], .string (byt c1), .string s, .bool t3, .string (byt c1), .agg #[.int .i64 t, .int .i64 p], .agg #[.int .i64 t, .int .i64 p, .slice none 0 0], .string s, .bool false, undef, .string s, .func (.func 132) #[] #[.pointer (some ⟨P + 1 + 1, 0, none⟩), .pointer (some ⟨P + 1, 0, none⟩), .pointer (some ⟨P + 1 + 1 + 1, 0, none⟩)], .string x, undef, undef, undef, undef, undef, undef, undef, undef, undef, undef, undef, undef, undef, undef, undef, undef, undef, undef, undef, undef, undef, undef, undef, undef, undef], defers := [] }) ?assign ?body ?done (fun _ _ _ _ h => h.elim)
  case hI =>
    rintro p A C ⟨h1, h2, u, h3, h4⟩ ht
    have hsz : w.heap.size ≤ A.heap.size := h1.size
    exact ⟨h1.trans (ht.below (by omega) (by omega)), h2.touch ht (by omega), u, h3.touch ht (by omega), h4.touch ht (by omega)⟩
  case hIb =>
    rintro p A C ⟨h1, h2, u, h3, h4⟩ ht
    have hsz : w.heap.size ≤ A.heap.size := h1.size
    exact ⟨h1.trans (ht.below (by omega) (by omega)), h2.touch ht (by omega), u, h3.touch ht (by omega), h4.touch ht (by omega)⟩
  case assign =>
    intro l x W K hK
    gi_wp2
    exact hK
  case body =>
    rintro l0 pre x W ⟨h1, h2, u, h3, h4⟩ hWs hpre hcapW
    obtain ⟨X, rfl⟩ : ∃ X, x = byt X := ⟨x.data.toList, by simp [byt]⟩
    have hlen : pre.length + 1 ≤ s.size + 1 := by
      have h := hpre.length_le
      have := HSL.out
      simp at h
      omega
    have hxl : X.length ≤ s.size := by have := HSM.out (byt X) (hpre.subset (by simp)); rwa [byt_size] at this
    have H1 := Lib.hid h1
    have H2 := Lib.hid h2
    have HCAP := Lib.hid hcapW
    have hs0 := HS.out
    have hx1 := cu1_len 46 X
    have hx2 := cu2_len 46 X
    have hx3 := cu1_len 46 (cu2 46 X)
    have hx4 := cu2_len 46 (cu2 46 X)
    have HCUT := Lib.hid (fun q (hq : List.length q ≤ 1048576) W => cutL_any 46 q hq W)
    have HX0 : Hid (X.length ≤ 1048576) := Lib.hid (by omega)
    have HX1 : Hid ((cu2 46 X).length ≤ 1048576) := Lib.hid (by omega)
    have HR0 := Lib.hid (fun W hW => readP_any (cu1 46 X) (by omega) W hW)
    have HR1 := Lib.hid (fun W hW => readP_any (cu1 46 (cu2 46 X)) (by omega) W hW)
    have HR2 := Lib.hid (fun W hW => readP_any (cu2 46 (cu2 46 X)) (by omega) W hW)
    have HNS : Hid (rdZ (pre ++ [byt X]) = rdZ pre ++ [(numL (cu1 46 X), numL (cu1 46 (cu2 46 X)), numL (cu2 46 (cu2 46 X)))]) := Lib.hid (rdZ_snoc pre (byt X))
    have hnl := rdZ_len pre
    generalize rdZ pre = qs at *
    generalize numL (cu1 46 X) = v0 at *
    generalize numL (cu1 46 (cu2 46 X)) = v1 at *
    generalize numL (cu2 46 (cu2 46 X)) = v2 at *
    have HML : Hid (qs.length + 1 ≤ maxLen) := Lib.hid (by unfold maxLen; omega)
    have HML2 : Hid (qs.length ≤ 1048577) := Lib.hid (by omega)
    have HB3 := Lib.hid h3
    have HL4 := Lib.hid h4
    have HBW := Lib.hid (Below.refl W.heap.size W)
    clear h1 h2 h3 h4 hpre hcapW hbel hbR hbP hcap hit hs hxl hx1 hx2 hx3 hx4 hnl hlen
    gi_wp2_with (refine ⟨trivial, ?_⟩; gi_at_call 84; refine (CallsIn.inRound l0 (callsIn_wide.2 (HCUT.out _ (by first | exact HX0.out | exact HX1.out) _))).mono ?_; rintro e w4 ⟨rfl, hb4⟩; replace HBW := Lib.hid (HBW.out.trans (hb4.mono HBW.out.size)); clear hb4)
    have HBX := Lib.hid (HB3.out.kept HBW.out)
    have HCL := Lib.hid (ownsRow_kept HL4.out HBW.out)
    have hPl : P < w4.heap.size := HBX.out.1.2
    have hPB : P < P + 6 := by omega
    have hBw : P + 6 ≤ w4.heap.size := by have := HBW.out.size; omega
    have HST := Lib.hid (fun V (hb : Below w4.heap.size w4 V) => HW.out.below ((H1.out.trans (HBW.out.mono H1.out.size)).trans (hb.mono (Nat.le_trans H1.out.size HBW.out.size))))
    have HK3 : Hid (KpA (P + 6) P W w4) := Lib.hid (KpA.of_below HBW.out (by omega))
    obtain ⟨k0, k1, k2, k3, k4, k5⟩ := HBX.out.cells
    refine wpIn_mono (Q := fun e a' w' => e = .normal ∧ ∃ v5, BzF w' P t p v5 ∧ ClsAt w' (P + 6) v5 (qs ++ [(v0, v1, v2)]) ∧ KpA (P + 6) P w4 w') ?reg9 ?_
    case reg9 =>
      refine region_round (S := fun _ => True) (by kernel_rfl) (by kernel_rfl) (fun h => by obtain ⟨_, _, h, _⟩ := h; cases h) trivial (fun hHeld => ?_)
      refine wpAnyH_take (i := 0) (oi := { dst := some 41, op := Op.fieldAddr 55 (Operand.tmp 6) 1, type := 0, pos := "l9_puzzle.go:312", after := #[], guard := none }) (v := ?_) rfl (by kernel_rfl) (by kernel_rfl) (by kernel_rfl) (fun _ _ _ h => nomatch h.1) (Or.inl ⟨by rfl, ?_⟩) (by assumption) ?_
      rotate_left
      · (intro wS hSw; go_simp; (try with_reducible rfl))
      (try simp only [Act.put, List.setIfInBounds_toArray, List.set_cons_zero, List.set_cons_succ])
      refine wpAnyH_take (i := 2) (oi := { dst := some 43, op := Op.move (Operand.tmp 8), type := 9, pos := "l9_puzzle.go:312", after := #[], guard := none }) (v := ?_) rfl (by kernel_rfl) (by kernel_rfl) (by kernel_rfl) (fun _ _ _ h => nomatch h.1) (Or.inl ⟨by rfl, ?_⟩) (by assumption) ?_
      rotate_left
      · (intro wS hSw; go_simp; (try with_reducible rfl))
      (try simp only [Act.put, List.setIfInBounds_toArray, List.set_cons_zero, List.set_cons_succ])
      refine wpAnyH_take (i := 4) (oi := { dst := some 45, op := Op.move (Operand.tmp 11), type := 9, pos := "l9_puzzle.go:312", after := #[], guard := none }) (v := ?_) rfl (by kernel_rfl) (by kernel_rfl) (by kernel_rfl) (fun _ _ _ h => nomatch h.1) (Or.inl ⟨by rfl, ?_⟩) (by assumption) ?_
      rotate_left
      · (intro wS hSw; go_simp; (try with_reducible rfl))
      (try simp only [Act.put, List.setIfInBounds_toArray, List.set_cons_zero, List.set_cons_succ])
      refine wpAnyH_take (i := 6) (oi := { dst := some 47, op := Op.move (Operand.tmp 12), type := 9, pos := "l9_puzzle.go:312", after := #[], guard := none }) (v := ?_) rfl (by kernel_rfl) (by kernel_rfl) (by kernel_rfl) (fun _ _ _ h => nomatch h.1) (Or.inl ⟨by rfl, ?_⟩) (by assumption) ?_
      rotate_left
      · (intro wS hSw; go_simp; (try with_reducible rfl))
      (try simp only [Act.put, List.setIfInBounds_toArray, List.set_cons_zero, List.set_cons_succ])
      refine wpAnyH_ready (rs := [1, 3]) (by kernel_rfl) (by simp) ?_
      refine AllReadyH.cons (o := { dst := some 42, op := Op.load 53 (Operand.tmp 41), type := 53, pos := "l9_puzzle.go:312", after := #[{ on := 0, ground := Ground.data }], guard := none }) rfl (fun K hK => ?_) (AllReadyH.cons (o := { dst := some 44, op := Op.call { callee := Callee.value (Operand.func 85), args := #[Operand.tmp 43], argTypes := #[9] }, type := 3, pos := "l9_puzzle.go:312", after := #[{ on := 2, ground := Ground.data }], guard := none }) rfl (fun K hK => ?_) AllReadyH.nil)
      · go_simp
        refine hK.out _ _ trivial (fun hHeld2 => ?_)
        clear hK K
        (try simp only [Act.put, List.setIfInBounds_toArray, List.set_cons_zero, List.set_cons_succ])
        refine wpAnyH_ready (rs := [3]) (by kernel_rfl) (by simp) ?_
        refine AllReadyH.cons (o := { dst := some 44, op := Op.call { callee := Callee.value (Operand.func 85), args := #[Operand.tmp 43], argTypes := #[9] }, type := 3, pos := "l9_puzzle.go:312", after := #[{ on := 2, ground := Ground.data }], guard := none }) rfl (fun K hK => ?_) AllReadyH.nil
        go_simp
        (go_at_call 85; refine (HR0.out _ (HST.out _ (Below.refl w4.heap.size w4).drew)).mono ?_; rintro e a0 ⟨rfl, hb⟩)
        have HB0 := Lib.hid ((Below.refl w4.heap.size w4).drew.trans (hb.mono (Below.refl w4.heap.size w4).drew.size))
        have X0 := Lib.hid (HBX.out.kept2 HB0.out hPl)
        clear hb
        obtain ⟨k0, k1, k2, k3, k4, k5⟩ := X0.out.cells
        refine hK.out _ _ trivial (fun hHeld2 => ?_)
        clear hK K
        (try simp only [Act.put, List.setIfInBounds_toArray, List.set_cons_zero, List.set_cons_succ])
        refine wpAnyH_ready (rs := [5]) (by kernel_rfl) (by simp) ?_
        refine AllReadyH.cons (o := { dst := some 46, op := Op.call { callee := Callee.value (Operand.func 85), args := #[Operand.tmp 45], argTypes := #[9] }, type := 3, pos := "l9_puzzle.go:312", after := #[{ on := 4, ground := Ground.data }, { on := 3, ground := Ground.chain }], guard := none }) rfl (fun K hK => ?_) AllReadyH.nil
        go_simp
        (go_at_call 85; refine (HR1.out _ (HST.out _ HB0.out)).mono ?_; rintro e a1 ⟨rfl, hb⟩)
        have HB1 := Lib.hid (HB0.out.trans (hb.mono HB0.out.size))
        have X1 := Lib.hid (HBX.out.kept2 HB1.out hPl)
        clear hb k0 k1 k2 k3 k4 k5
        obtain ⟨k0, k1, k2, k3, k4, k5⟩ := X1.out.cells
        refine hK.out _ _ trivial (fun hHeld2 => ?_)
        clear hK K
        (try simp only [Act.put, List.setIfInBounds_toArray, List.set_cons_zero, List.set_cons_succ])
        refine wpAnyH_ready (rs := [7]) (by kernel_rfl) (by simp) ?_
        refine AllReadyH.cons (o := { dst := some 48, op := Op.call { callee := Callee.value (Operand.func 85), args := #[Operand.tmp 47], argTypes := #[9] }, type := 3, pos := "l9_puzzle.go:312", after := #[{ on := 6, ground := Ground.data }, { on := 5, ground := Ground.chain }], guard := none }) rfl (fun K hK => ?_) AllReadyH.nil
        go_simp
        (go_at_call 85; refine (HR2.out _ (HST.out _ HB1.out)).mono ?_; rintro e a2 ⟨rfl, hb⟩)
        have HB2 := Lib.hid (HB1.out.trans (hb.mono HB1.out.size))
        have X2 := Lib.hid (HBX.out.kept2 HB2.out hPl)
        clear hb k0 k1 k2 k3 k4 k5
        obtain ⟨k0, k1, k2, k3, k4, k5⟩ := X2.out.cells
        refine hK.out _ _ trivial (fun hHeld2 => ?_)
        clear hK K
        (try simp only [Act.put, List.setIfInBounds_toArray, List.set_cons_zero, List.set_cons_succ])
        refine wpAnyH_take (i := 8) (oi := { dst := some 49, op := Op.build 93 #[(0, Operand.tmp 44), (1, Operand.tmp 46), (2, Operand.tmp 48)], type := 93, pos := "l9_puzzle.go:312", after := #[{ on := 3, ground := Ground.data }, { on := 5, ground := Ground.data }, { on := 7, ground := Ground.data }], guard := none }) (v := ?_) rfl (by kernel_rfl) (by kernel_rfl) (by kernel_rfl) (fun _ _ _ h => nomatch h.1) (Or.inl ⟨by rfl, ?_⟩) (by assumption) ?_
        rotate_left
        · (intro wS hSw; go_simp; (try with_reducible rfl))
        (try simp only [Act.put, List.setIfInBounds_toArray, List.set_cons_zero, List.set_cons_succ])
        refine wpAnyH_ready (rs := [9]) (by kernel_rfl) (by simp) ?_
        refine AllReadyH.cons (o := { dst := some 50, op := Op.buildSlice 53 1 #[(0, Operand.tmp 49)], type := 53, pos := "l9_puzzle.go:312", after := #[{ on := 8, ground := Ground.data }], guard := none }) rfl (fun K hK => ?_) AllReadyH.nil
        have Y := X2.out.kept (below_alloc a2 (.cells #[.int .i64 v0, .int .i64 v1, .int .i64 v2] 93))
        clear k0 k1 k2 k3 k4 k5
        obtain ⟨k0, k1, k2, k3, k4, k5⟩ := Y.cells
        clear Y
        go_simp
        refine hK.out _ _ trivial (fun hHeld2 => ?_)
        clear hK K
        (try simp only [Act.put, List.setIfInBounds_toArray, List.set_cons_zero, List.set_cons_succ])
        refine wpAnyH_ready (rs := [10]) (by kernel_rfl) (by simp) ?_
        refine AllReadyH.cons (o := { dst := some 51, op := Op.call { callee := Callee.builtin Builtin.append, args := #[Operand.tmp 42, Operand.tmp 50], argTypes := #[53, 53] }, type := 53, pos := "l9_puzzle.go:312", after := #[{ on := 1, ground := Ground.data }, { on := 9, ground := Ground.data }, { on := 7, ground := Ground.chain }], guard := none }) rfl (fun K hK => ?_) AllReadyH.nil
        refine step_append_rd rfl (.tmp 42) (.tmp 50) 53 rfl (P + 6) 93 i0 (.agg #[.int .i64 0, .int .i64 0, .int .i64 0]) 3 24 Tryd.underlying53 hi hi0 hi1 hi2 rfl (by decide) u _ _ (by simp [Act.eval]) (ownsRow_kept HCL.out (HB2.out.trans ((below_alloc a2 (.cells #[.int .i64 v0, .int .i64 v1, .int .i64 v2] 93)).mono HB2.out.size))) ⟨a2.heap.size, 0, none⟩ 1 1 [.int .i64 v0, .int .i64 v1, .int .i64 v2] (by simp [Act.eval]) rfl (fun j u hu => three_new _ _ _ _ _ rfl hu) (by simp [Value.oneCell']) HML.out (by have := HML2.out; omega) (by have := HB2.out.size; simp; omega) ?_
        intro v5 w5 hown5 hgrow5 hat5
        obtain ⟨p5, d5, rfl⟩ := own_formP hown5
        obtain ⟨CL5, BX5, KP5⟩ := leafZ (q := (v0, v1, v2)) HCL.out HBX.out hPB hBw HB2.out hown5 hgrow5
        clear k0 k1 k2 k3 k4 k5
        obtain ⟨k0, k1, k2, k3, k4, k5⟩ := BX5.cells
        refine hK.out _ _ trivial (fun hHeld2 => ?_)
        clear hK K
        (try simp only [Act.put, List.setIfInBounds_toArray, List.set_cons_zero, List.set_cons_succ])
        refine wpAnyH_take (i := 11) (oi := { dst := some 52, op := Op.fieldAddr 55 (Operand.tmp 6) 1, type := 0, pos := "l9_puzzle.go:312", after := #[{ on := 0, ground := Ground.phase }, { on := 1, ground := Ground.phase }, { on := 2, ground := Ground.phase }, { on := 3, ground := Ground.phase }, { on := 4, ground := Ground.phase }, { on := 5, ground := Ground.phase }, { on := 6, ground := Ground.phase }, { on := 7, ground := Ground.phase }, { on := 8, ground := Ground.phase }, { on := 9, ground := Ground.phase }, { on := 10, ground := Ground.phase }], guard := none }) (v := ?_) rfl (by kernel_rfl) (by kernel_rfl) (by kernel_rfl) (fun _ _ _ h => nomatch h.1) (Or.inl ⟨by rfl, ?_⟩) (by assumption) ?_
        rotate_left
        · (intro wS hSw; go_simp; (try with_reducible rfl))
        (try simp only [Act.put, List.setIfInBounds_toArray, List.set_cons_zero, List.set_cons_succ])
        refine wpAnyH_ready (rs := [12]) (by kernel_rfl) (by simp) ?_
        refine AllReadyH.cons (o := { dst := none, op := Op.store 53 (Operand.tmp 52) (Operand.tmp 51), type := 0, pos := "l9_puzzle.go:312", after := #[{ on := 11, ground := Ground.data }, { on := 10, ground := Ground.data }, { on := 10, ground := Ground.chain }, { on := 0, ground := Ground.phase }, { on := 1, ground := Ground.phase }, { on := 2, ground := Ground.phase }, { on := 3, ground := Ground.phase }, { on := 4, ground := Ground.phase }, { on := 5, ground := Ground.phase }, { on := 6, ground := Ground.phase }, { on := 7, ground := Ground.phase }, { on := 8, ground := Ground.phase }, { on := 9, ground := Ground.phase }, { on := 10, ground := Ground.phase }], guard := none }) rfl (fun K hK => ?_) AllReadyH.nil
        go_simp
        refine hK.out _ _ trivial (fun hHeld2 => ?_)
        clear hK K
        (try simp only [Act.put, List.setIfInBounds_toArray, List.set_cons_zero, List.set_cons_succ])
        refine wpAnyH_done (by kernel_rfl) ?_ _
        exact ⟨rfl, _, BX5.put2 _, CL5.set2 hPB 2 _, KP5.set 2 _⟩
      · go_simp
        (go_at_call 85; refine (HR0.out _ (HST.out _ (Below.refl w4.heap.size w4).drew)).mono ?_; rintro e a0 ⟨rfl, hb⟩)
        have HB0 := Lib.hid ((Below.refl w4.heap.size w4).drew.trans (hb.mono (Below.refl w4.heap.size w4).drew.size))
        have X0 := Lib.hid (HBX.out.kept2 HB0.out hPl)
        clear hb
        obtain ⟨k0, k1, k2, k3, k4, k5⟩ := X0.out.cells
        refine hK.out _ _ trivial (fun hHeld2 => ?_)
        clear hK K
        (try simp only [Act.put, List.setIfInBounds_toArray, List.set_cons_zero, List.set_cons_succ])
        refine wpAnyH_ready (rs := [1, 5]) (by kernel_rfl) (by simp) ?_
        refine AllReadyH.cons (o := { dst := some 42, op := Op.load 53 (Operand.tmp 41), type := 53, pos := "l9_puzzle.go:312", after := #[{ on := 0, ground := Ground.data }], guard := none }) rfl (fun K hK => ?_) (AllReadyH.cons (o := { dst := some 46, op := Op.call { callee := Callee.value (Operand.func 85), args := #[Operand.tmp 45], argTypes := #[9] }, type := 3, pos := "l9_puzzle.go:312", after := #[{ on := 4, ground := Ground.data }, { on := 3, ground := Ground.chain }], guard := none }) rfl (fun K hK => ?_) AllReadyH.nil)
        · go_simp
          refine hK.out _ _ trivial (fun hHeld2 => ?_)
          clear hK K
          (try simp only [Act.put, List.setIfInBounds_toArray, List.set_cons_zero, List.set_cons_succ])
          refine wpAnyH_ready (rs := [5]) (by kernel_rfl) (by simp) ?_
          refine AllReadyH.cons (o := { dst := some 46, op := Op.call { callee := Callee.value (Operand.func 85), args := #[Operand.tmp 45], argTypes := #[9] }, type := 3, pos := "l9_puzzle.go:312", after := #[{ on := 4, ground := Ground.data }, { on := 3, ground := Ground.chain }], guard := none }) rfl (fun K hK => ?_) AllReadyH.nil
          go_simp
          (go_at_call 85; refine (HR1.out _ (HST.out _ HB0.out)).mono ?_; rintro e a1 ⟨rfl, hb⟩)
          have HB1 := Lib.hid (HB0.out.trans (hb.mono HB0.out.size))
          have X1 := Lib.hid (HBX.out.kept2 HB1.out hPl)
          clear hb k0 k1 k2 k3 k4 k5
          obtain ⟨k0, k1, k2, k3, k4, k5⟩ := X1.out.cells
          refine hK.out _ _ trivial (fun hHeld2 => ?_)
          clear hK K
          (try simp only [Act.put, List.setIfInBounds_toArray, List.set_cons_zero, List.set_cons_succ])
          refine wpAnyH_ready (rs := [7]) (by kernel_rfl) (by simp) ?_
          refine AllReadyH.cons (o := { dst := some 48, op := Op.call { callee := Callee.value (Operand.func 85), args := #[Operand.tmp 47], argTypes := #[9] }, type := 3, pos := "l9_puzzle.go:312", after := #[{ on := 6, ground := Ground.data }, { on := 5, ground := Ground.chain }], guard := none }) rfl (fun K hK => ?_) AllReadyH.nil
          go_simp
          (go_at_call 85; refine (HR2.out _ (HST.out _ HB1.out)).mono ?_; rintro e a2 ⟨rfl, hb⟩)
          have HB2 := Lib.hid (HB1.out.trans (hb.mono HB1.out.size))
          have X2 := Lib.hid (HBX.out.kept2 HB2.out hPl)
          clear hb k0 k1 k2 k3 k4 k5
          obtain ⟨k0, k1, k2, k3, k4, k5⟩ := X2.out.cells
          refine hK.out _ _ trivial (fun hHeld2 => ?_)
          clear hK K
          (try simp only [Act.put, List.setIfInBounds_toArray, List.set_cons_zero, List.set_cons_succ])
          refine wpAnyH_take (i := 8) (oi := { dst := some 49, op := Op.build 93 #[(0, Operand.tmp 44), (1, Operand.tmp 46), (2, Operand.tmp 48)], type := 93, pos := "l9_puzzle.go:312", after := #[{ on := 3, ground := Ground.data }, { on := 5, ground := Ground.data }, { on := 7, ground := Ground.data }], guard := none }) (v := ?_) rfl (by kernel_rfl) (by kernel_rfl) (by kernel_rfl) (fun _ _ _ h => nomatch h.1) (Or.inl ⟨by rfl, ?_⟩) (by assumption) ?_
          rotate_left
          · (intro wS hSw; go_simp; (try with_reducible rfl))
          (try simp only [Act.put, List.setIfInBounds_toArray, List.set_cons_zero, List.set_cons_succ])
          refine wpAnyH_ready (rs := [9]) (by kernel_rfl) (by simp) ?_
          refine AllReadyH.cons (o := { dst := some 50, op := Op.buildSlice 53 1 #[(0, Operand.tmp 49)], type := 53, pos := "l9_puzzle.go:312", after := #[{ on := 8, ground := Ground.data }], guard := none }) rfl (fun K hK => ?_) AllReadyH.nil
          have Y := X2.out.kept (below_alloc a2 (.cells #[.int .i64 v0, .int .i64 v1, .int .i64 v2] 93))
          clear k0 k1 k2 k3 k4 k5
          obtain ⟨k0, k1, k2, k3, k4, k5⟩ := Y.cells
          clear Y
          go_simp
          refine hK.out _ _ trivial (fun hHeld2 => ?_)
          clear hK K
          (try simp only [Act.put, List.setIfInBounds_toArray, List.set_cons_zero, List.set_cons_succ])
          refine wpAnyH_ready (rs := [10]) (by kernel_rfl) (by simp) ?_
          refine AllReadyH.cons (o := { dst := some 51, op := Op.call { callee := Callee.builtin Builtin.append, args := #[Operand.tmp 42, Operand.tmp 50], argTypes := #[53, 53] }, type := 53, pos := "l9_puzzle.go:312", after := #[{ on := 1, ground := Ground.data }, { on := 9, ground := Ground.data }, { on := 7, ground := Ground.chain }], guard := none }) rfl (fun K hK => ?_) AllReadyH.nil
          refine step_append_rd rfl (.tmp 42) (.tmp 50) 53 rfl (P + 6) 93 i0 (.agg #[.int .i64 0, .int .i64 0, .int .i64 0]) 3 24 Tryd.underlying53 hi hi0 hi1 hi2 rfl (by decide) u _ _ (by simp [Act.eval]) (ownsRow_kept HCL.out (HB2.out.trans ((below_alloc a2 (.cells #[.int .i64 v0, .int .i64 v1, .int .i64 v2] 93)).mono HB2.out.size))) ⟨a2.heap.size, 0, none⟩ 1 1 [.int .i64 v0, .int .i64 v1, .int .i64 v2] (by simp [Act.eval]) rfl (fun j u hu => three_new _ _ _ _ _ rfl hu) (by simp [Value.oneCell']) HML.out (by have := HML2.out; omega) (by have := HB2.out.size; simp; omega) ?_
          intro v5 w5 hown5 hgrow5 hat5
          obtain ⟨p5, d5, rfl⟩ := own_formP hown5
          obtain ⟨CL5, BX5, KP5⟩ := leafZ (q := (v0, v1, v2)) HCL.out HBX.out hPB hBw HB2.out hown5 hgrow5
          clear k0 k1 k2 k3 k4 k5
          obtain ⟨k0, k1, k2, k3, k4, k5⟩ := BX5.cells
          refine hK.out _ _ trivial (fun hHeld2 => ?_)
          clear hK K
          (try simp only [Act.put, List.setIfInBounds_toArray, List.set_cons_zero, List.set_cons_succ])
          refine wpAnyH_take (i := 11) (oi := { dst := some 52, op := Op.fieldAddr 55 (Operand.tmp 6) 1, type := 0, pos := "l9_puzzle.go:312", after := #[{ on := 0, ground := Ground.phase }, { on := 1, ground := Ground.phase }, { on := 2, ground := Ground.phase }, { on := 3, ground := Ground.phase }, { on := 4, ground := Ground.phase }, { on := 5, ground := Ground.phase }, { on := 6, ground := Ground.phase }, { on := 7, ground := Ground.phase }, { on := 8, ground := Ground.phase }, { on := 9, ground := Ground.phase }, { on := 10, ground := Ground.phase }], guard := none }) (v := ?_) rfl (by kernel_rfl) (by kernel_rfl) (by kernel_rfl) (fun _ _ _ h => nomatch h.1) (Or.inl ⟨by rfl, ?_⟩) (by assumption) ?_
          rotate_left
          · (intro wS hSw; go_simp; (try with_reducible rfl))
          (try simp only [Act.put, List.setIfInBounds_toArray, List.set_cons_zero, List.set_cons_succ])
          refine wpAnyH_ready (rs := [12]) (by kernel_rfl) (by simp) ?_
          refine AllReadyH.cons (o := { dst := none, op := Op.store 53 (Operand.tmp 52) (Operand.tmp 51), type := 0, pos := "l9_puzzle.go:312", after := #[{ on := 11, ground := Ground.data }, { on := 10, ground := Ground.data }, { on := 10, ground := Ground.chain }, { on := 0, ground := Ground.phase }, { on := 1, ground := Ground.phase }, { on := 2, ground := Ground.phase }, { on := 3, ground := Ground.phase }, { on := 4, ground := Ground.phase }, { on := 5, ground := Ground.phase }, { on := 6, ground := Ground.phase }, { on := 7, ground := Ground.phase }, { on := 8, ground := Ground.phase }, { on := 9, ground := Ground.phase }, { on := 10, ground := Ground.phase }], guard := none }) rfl (fun K hK => ?_) AllReadyH.nil
          go_simp
          refine hK.out _ _ trivial (fun hHeld2 => ?_)
          clear hK K
          (try simp only [Act.put, List.setIfInBounds_toArray, List.set_cons_zero, List.set_cons_succ])
          refine wpAnyH_done (by kernel_rfl) ?_ _
          exact ⟨rfl, _, BX5.put2 _, CL5.set2 hPB 2 _, KP5.set 2 _⟩
        · go_simp
          (go_at_call 85; refine (HR1.out _ (HST.out _ HB0.out)).mono ?_; rintro e a1 ⟨rfl, hb⟩)
          have HB1 := Lib.hid (HB0.out.trans (hb.mono HB0.out.size))
          have X1 := Lib.hid (HBX.out.kept2 HB1.out hPl)
          clear hb k0 k1 k2 k3 k4 k5
          obtain ⟨k0, k1, k2, k3, k4, k5⟩ := X1.out.cells
          refine hK.out _ _ trivial (fun hHeld2 => ?_)
          clear hK K
          (try simp only [Act.put, List.setIfInBounds_toArray, List.set_cons_zero, List.set_cons_succ])
          refine wpAnyH_ready (rs := [1, 7]) (by kernel_rfl) (by simp) ?_
          refine AllReadyH.cons (o := { dst := some 42, op := Op.load 53 (Operand.tmp 41), type := 53, pos := "l9_puzzle.go:312", after := #[{ on := 0, ground := Ground.data }], guard := none }) rfl (fun K hK => ?_) (AllReadyH.cons (o := { dst := some 48, op := Op.call { callee := Callee.value (Operand.func 85), args := #[Operand.tmp 47], argTypes := #[9] }, type := 3, pos := "l9_puzzle.go:312", after := #[{ on := 6, ground := Ground.data }, { on := 5, ground := Ground.chain }], guard := none }) rfl (fun K hK => ?_) AllReadyH.nil)
          · go_simp
            refine hK.out _ _ trivial (fun hHeld2 => ?_)
            clear hK K
            (try simp only [Act.put, List.setIfInBounds_toArray, List.set_cons_zero, List.set_cons_succ])
            refine wpAnyH_ready (rs := [7]) (by kernel_rfl) (by simp) ?_
            refine AllReadyH.cons (o := { dst := some 48, op := Op.call { callee := Callee.value (Operand.func 85), args := #[Operand.tmp 47], argTypes := #[9] }, type := 3, pos := "l9_puzzle.go:312", after := #[{ on := 6, ground := Ground.data }, { on := 5, ground := Ground.chain }], guard := none }) rfl (fun K hK => ?_) AllReadyH.nil
            go_simp
            (go_at_call 85; refine (HR2.out _ (HST.out _ HB1.out)).mono ?_; rintro e a2 ⟨rfl, hb⟩)
            have HB2 := Lib.hid (HB1.out.trans (hb.mono HB1.out.size))
            have X2 := Lib.hid (HBX.out.kept2 HB2.out hPl)
            clear hb k0 k1 k2 k3 k4 k5
            obtain ⟨k0, k1, k2, k3, k4, k5⟩ := X2.out.cells
            refine hK.out _ _ trivial (fun hHeld2 => ?_)
            clear hK K
            (try simp only [Act.put, List.setIfInBounds_toArray, List.set_cons_zero, List.set_cons_succ])
            refine wpAnyH_take (i := 8) (oi := { dst := some 49, op := Op.build 93 #[(0, Operand.tmp 44), (1, Operand.tmp 46), (2, Operand.tmp 48)], type := 93, pos := "l9_puzzle.go:312", after := #[{ on := 3, ground := Ground.data }, { on := 5, ground := Ground.data }, { on := 7, ground := Ground.data }], guard := none }) (v := ?_) rfl (by kernel_rfl) (by kernel_rfl) (by kernel_rfl) (fun _ _ _ h => nomatch h.1) (Or.inl ⟨by rfl, ?_⟩) (by assumption) ?_
            rotate_left
            · (intro wS hSw; go_simp; (try with_reducible rfl))
            (try simp only [Act.put, List.setIfInBounds_toArray, List.set_cons_zero, List.set_cons_succ])
            refine wpAnyH_ready (rs := [9]) (by kernel_rfl) (by simp) ?_
            refine AllReadyH.cons (o := { dst := some 50, op := Op.buildSlice 53 1 #[(0, Operand.tmp 49)], type := 53, pos := "l9_puzzle.go:312", after := #[{ on := 8, ground := Ground.data }], guard := none }) rfl (fun K hK => ?_) AllReadyH.nil
            have Y := X2.out.kept (below_alloc a2 (.cells #[.int .i64 v0, .int .i64 v1, .int .i64 v2] 93))
            clear k0 k1 k2 k3 k4 k5
            obtain ⟨k0, k1, k2, k3, k4, k5⟩ := Y.cells
            clear Y
            go_simp
            refine hK.out _ _ trivial (fun hHeld2 => ?_)
            clear hK K
            (try simp only [Act.put, List.setIfInBounds_toArray, List.set_cons_zero, List.set_cons_succ])
            refine wpAnyH_ready (rs := [10]) (by kernel_rfl) (by simp) ?_
            refine AllReadyH.cons (o := { dst := some 51, op := Op.call { callee := Callee.builtin Builtin.append, args := #[Operand.tmp 42, Operand.tmp 50], argTypes := #[53, 53] }, type := 53, pos := "l9_puzzle.go:312", after := #[{ on := 1, ground := Ground.data }, { on := 9, ground := Ground.data }, { on := 7, ground := Ground.chain }], guard := none }) rfl (fun K hK => ?_) AllReadyH.nil
            refine step_append_rd rfl (.tmp 42) (.tmp 50) 53 rfl (P + 6) 93 i0 (.agg #[.int .i64 0, .int .i64 0, .int .i64 0]) 3 24 Tryd.underlying53 hi hi0 hi1 hi2 rfl (by decide) u _ _ (by simp [Act.eval]) (ownsRow_kept HCL.out (HB2.out.trans ((below_alloc a2 (.cells #[.int .i64 v0, .int .i64 v1, .int .i64 v2] 93)).mono HB2.out.size))) ⟨a2.heap.size, 0, none⟩ 1 1 [.int .i64 v0, .int .i64 v1, .int .i64 v2] (by simp [Act.eval]) rfl (fun j u hu => three_new _ _ _ _ _ rfl hu) (by simp [Value.oneCell']) HML.out (by have := HML2.out; omega) (by have := HB2.out.size; simp; omega) ?_
            intro v5 w5 hown5 hgrow5 hat5
            obtain ⟨p5, d5, rfl⟩ := own_formP hown5
            obtain ⟨CL5, BX5, KP5⟩ := leafZ (q := (v0, v1, v2)) HCL.out HBX.out hPB hBw HB2.out hown5 hgrow5
            clear k0 k1 k2 k3 k4 k5
            obtain ⟨k0, k1, k2, k3, k4, k5⟩ := BX5.cells
            refine hK.out _ _ trivial (fun hHeld2 => ?_)
            clear hK K
            (try simp only [Act.put, List.setIfInBounds_toArray, List.set_cons_zero, List.set_cons_succ])
            refine wpAnyH_take (i := 11) (oi := { dst := some 52, op := Op.fieldAddr 55 (Operand.tmp 6) 1, type := 0, pos := "l9_puzzle.go:312", after := #[{ on := 0, ground := Ground.phase }, { on := 1, ground := Ground.phase }, { on := 2, ground := Ground.phase }, { on := 3, ground := Ground.phase }, { on := 4, ground := Ground.phase }, { on := 5, ground := Ground.phase }, { on := 6, ground := Ground.phase }, { on := 7, ground := Ground.phase }, { on := 8, ground := Ground.phase }, { on := 9, ground := Ground.phase }, { on := 10, ground := Ground.phase }], guard := none }) (v := ?_) rfl (by kernel_rfl) (by kernel_rfl) (by kernel_rfl) (fun _ _ _ h => nomatch h.1) (Or.inl ⟨by rfl, ?_⟩) (by assumption) ?_
            rotate_left
            · (intro wS hSw; go_simp; (try with_reducible rfl))
            (try simp only [Act.put, List.setIfInBounds_toArray, List.set_cons_zero, List.set_cons_succ])
            refine wpAnyH_ready (rs := [12]) (by kernel_rfl) (by simp) ?_
            refine AllReadyH.cons (o := { dst := none, op := Op.store 53 (Operand.tmp 52) (Operand.tmp 51), type := 0, pos := "l9_puzzle.go:312", after := #[{ on := 11, ground := Ground.data }, { on := 10, ground := Ground.data }, { on := 10, ground := Ground.chain }, { on := 0, ground := Ground.phase }, { on := 1, ground := Ground.phase }, { on := 2, ground := Ground.phase }, { on := 3, ground := Ground.phase }, { on := 4, ground := Ground.phase }, { on := 5, ground := Ground.phase }, { on := 6, ground := Ground.phase }, { on := 7, ground := Ground.phase }, { on := 8, ground := Ground.phase }, { on := 9, ground := Ground.phase }, { on := 10, ground := Ground.phase }], guard := none }) rfl (fun K hK => ?_) AllReadyH.nil
            go_simp
            refine hK.out _ _ trivial (fun hHeld2 => ?_)
            clear hK K
            (try simp only [Act.put, List.setIfInBounds_toArray, List.set_cons_zero, List.set_cons_succ])
            refine wpAnyH_done (by kernel_rfl) ?_ _
            exact ⟨rfl, _, BX5.put2 _, CL5.set2 hPB 2 _, KP5.set 2 _⟩
          · go_simp
            (go_at_call 85; refine (HR2.out _ (HST.out _ HB1.out)).mono ?_; rintro e a2 ⟨rfl, hb⟩)
            have HB2 := Lib.hid (HB1.out.trans (hb.mono HB1.out.size))
            have X2 := Lib.hid (HBX.out.kept2 HB2.out hPl)
            clear hb k0 k1 k2 k3 k4 k5
            obtain ⟨k0, k1, k2, k3, k4, k5⟩ := X2.out.cells
            refine hK.out _ _ trivial (fun hHeld2 => ?_)
            clear hK K
            (try simp only [Act.put, List.setIfInBounds_toArray, List.set_cons_zero, List.set_cons_succ])
            refine wpAnyH_take (i := 8) (oi := { dst := some 49, op := Op.build 93 #[(0, Operand.tmp 44), (1, Operand.tmp 46), (2, Operand.tmp 48)], type := 93, pos := "l9_puzzle.go:312", after := #[{ on := 3, ground := Ground.data }, { on := 5, ground := Ground.data }, { on := 7, ground := Ground.data }], guard := none }) (v := ?_) rfl (by kernel_rfl) (by kernel_rfl) (by kernel_rfl) (fun _ _ _ h => nomatch h.1) (Or.inl ⟨by rfl, ?_⟩) (by assumption) ?_
            rotate_left
            · (intro wS hSw; go_simp; (try with_reducible rfl))
            (try simp only [Act.put, List.setIfInBounds_toArray, List.set_cons_zero, List.set_cons_succ])
            refine wpAnyH_ready (rs := [1, 9]) (by kernel_rfl) (by simp) ?_
            refine AllReadyH.cons (o := { dst := some 42, op := Op.load 53 (Operand.tmp 41), type := 53, pos := "l9_puzzle.go:312", after := #[{ on := 0, ground := Ground.data }], guard := none }) rfl (fun K hK => ?_) (AllReadyH.cons (o := { dst := some 50, op := Op.buildSlice 53 1 #[(0, Operand.tmp 49)], type := 53, pos := "l9_puzzle.go:312", after := #[{ on := 8, ground := Ground.data }], guard := none }) rfl (fun K hK => ?_) AllReadyH.nil)
            · go_simp
              refine hK.out _ _ trivial (fun hHeld2 => ?_)
              clear hK K
              (try simp only [Act.put, List.setIfInBounds_toArray, List.set_cons_zero, List.set_cons_succ])
              refine wpAnyH_ready (rs := [9]) (by kernel_rfl) (by simp) ?_
              refine AllReadyH.cons (o := { dst := some 50, op := Op.buildSlice 53 1 #[(0, Operand.tmp 49)], type := 53, pos := "l9_puzzle.go:312", after := #[{ on := 8, ground := Ground.data }], guard := none }) rfl (fun K hK => ?_) AllReadyH.nil
              have Y := X2.out.kept (below_alloc a2 (.cells #[.int .i64 v0, .int .i64 v1, .int .i64 v2] 93))
              clear k0 k1 k2 k3 k4 k5
              obtain ⟨k0, k1, k2, k3, k4, k5⟩ := Y.cells
              clear Y
              go_simp
              refine hK.out _ _ trivial (fun hHeld2 => ?_)
              clear hK K
              (try simp only [Act.put, List.setIfInBounds_toArray, List.set_cons_zero, List.set_cons_succ])
              refine wpAnyH_ready (rs := [10]) (by kernel_rfl) (by simp) ?_
              refine AllReadyH.cons (o := { dst := some 51, op := Op.call { callee := Callee.builtin Builtin.append, args := #[Operand.tmp 42, Operand.tmp 50], argTypes := #[53, 53] }, type := 53, pos := "l9_puzzle.go:312", after := #[{ on := 1, ground := Ground.data }, { on := 9, ground := Ground.data }, { on := 7, ground := Ground.chain }], guard := none }) rfl (fun K hK => ?_) AllReadyH.nil
              refine step_append_rd rfl (.tmp 42) (.tmp 50) 53 rfl (P + 6) 93 i0 (.agg #[.int .i64 0, .int .i64 0, .int .i64 0]) 3 24 Tryd.underlying53 hi hi0 hi1 hi2 rfl (by decide) u _ _ (by simp [Act.eval]) (ownsRow_kept HCL.out (HB2.out.trans ((below_alloc a2 (.cells #[.int .i64 v0, .int .i64 v1, .int .i64 v2] 93)).mono HB2.out.size))) ⟨a2.heap.size, 0, none⟩ 1 1 [.int .i64 v0, .int .i64 v1, .int .i64 v2] (by simp [Act.eval]) rfl (fun j u hu => three_new _ _ _ _ _ rfl hu) (by simp [Value.oneCell']) HML.out (by have := HML2.out; omega) (by have := HB2.out.size; simp; omega) ?_
              intro v5 w5 hown5 hgrow5 hat5
              obtain ⟨p5, d5, rfl⟩ := own_formP hown5
              obtain ⟨CL5, BX5, KP5⟩ := leafZ (q := (v0, v1, v2)) HCL.out HBX.out hPB hBw HB2.out hown5 hgrow5
              clear k0 k1 k2 k3 k4 k5
              obtain ⟨k0, k1, k2, k3, k4, k5⟩ := BX5.cells
              refine hK.out _ _ trivial (fun hHeld2 => ?_)
              clear hK K
              (try simp only [Act.put, List.setIfInBounds_toArray, List.set_cons_zero, List.set_cons_succ])
              refine wpAnyH_take (i := 11) (oi := { dst := some 52, op := Op.fieldAddr 55 (Operand.tmp 6) 1, type := 0, pos := "l9_puzzle.go:312", after := #[{ on := 0, ground := Ground.phase }, { on := 1, ground := Ground.phase }, { on := 2, ground := Ground.phase }, { on := 3, ground := Ground.phase }, { on := 4, ground := Ground.phase }, { on := 5, ground := Ground.phase }, { on := 6, ground := Ground.phase }, { on := 7, ground := Ground.phase }, { on := 8, ground := Ground.phase }, { on := 9, ground := Ground.phase }, { on := 10, ground := Ground.phase }], guard := none }) (v := ?_) rfl (by kernel_rfl) (by kernel_rfl) (by kernel_rfl) (fun _ _ _ h => nomatch h.1) (Or.inl ⟨by rfl, ?_⟩) (by assumption) ?_
              rotate_left
              · (intro wS hSw; go_simp; (try with_reducible rfl))
              (try simp only [Act.put, List.setIfInBounds_toArray, List.set_cons_zero, List.set_cons_succ])
              refine wpAnyH_ready (rs := [12]) (by kernel_rfl) (by simp) ?_
              refine AllReadyH.cons (o := { dst := none, op := Op.store 53 (Operand.tmp 52) (Operand.tmp 51), type := 0, pos := "l9_puzzle.go:312", after := #[{ on := 11, ground := Ground.data }, { on := 10, ground := Ground.data }, { on := 10, ground := Ground.chain }, { on := 0, ground := Ground.phase }, { on := 1, ground := Ground.phase }, { on := 2, ground := Ground.phase }, { on := 3, ground := Ground.phase }, { on := 4, ground := Ground.phase }, { on := 5, ground := Ground.phase }, { on := 6, ground := Ground.phase }, { on := 7, ground := Ground.phase }, { on := 8, ground := Ground.phase }, { on := 9, ground := Ground.phase }, { on := 10, ground := Ground.phase }], guard := none }) rfl (fun K hK => ?_) AllReadyH.nil
              go_simp
              refine hK.out _ _ trivial (fun hHeld2 => ?_)
              clear hK K
              (try simp only [Act.put, List.setIfInBounds_toArray, List.set_cons_zero, List.set_cons_succ])
              refine wpAnyH_done (by kernel_rfl) ?_ _
              exact ⟨rfl, _, BX5.put2 _, CL5.set2 hPB 2 _, KP5.set 2 _⟩
            · have Y := X2.out.kept (below_alloc a2 (.cells #[.int .i64 v0, .int .i64 v1, .int .i64 v2] 93))
              clear k0 k1 k2 k3 k4 k5
              obtain ⟨k0, k1, k2, k3, k4, k5⟩ := Y.cells
              clear Y
              go_simp
              refine hK.out _ _ trivial (fun hHeld2 => ?_)
              clear hK K
              (try simp only [Act.put, List.setIfInBounds_toArray, List.set_cons_zero, List.set_cons_succ])
              refine wpAnyH_ready (rs := [1]) (by kernel_rfl) (by simp) ?_
              refine AllReadyH.cons (o := { dst := some 42, op := Op.load 53 (Operand.tmp 41), type := 53, pos := "l9_puzzle.go:312", after := #[{ on := 0, ground := Ground.data }], guard := none }) rfl (fun K hK => ?_) AllReadyH.nil
              go_simp
              refine hK.out _ _ trivial (fun hHeld2 => ?_)
              clear hK K
              (try simp only [Act.put, List.setIfInBounds_toArray, List.set_cons_zero, List.set_cons_succ])
              refine wpAnyH_ready (rs := [10]) (by kernel_rfl) (by simp) ?_
              refine AllReadyH.cons (o := { dst := some 51, op := Op.call { callee := Callee.builtin Builtin.append, args := #[Operand.tmp 42, Operand.tmp 50], argTypes := #[53, 53] }, type := 53, pos := "l9_puzzle.go:312", after := #[{ on := 1, ground := Ground.data }, { on := 9, ground := Ground.data }, { on := 7, ground := Ground.chain }], guard := none }) rfl (fun K hK => ?_) AllReadyH.nil
              refine step_append_rd rfl (.tmp 42) (.tmp 50) 53 rfl (P + 6) 93 i0 (.agg #[.int .i64 0, .int .i64 0, .int .i64 0]) 3 24 Tryd.underlying53 hi hi0 hi1 hi2 rfl (by decide) u _ _ (by simp [Act.eval]) (ownsRow_kept HCL.out (HB2.out.trans ((below_alloc a2 (.cells #[.int .i64 v0, .int .i64 v1, .int .i64 v2] 93)).mono HB2.out.size))) ⟨a2.heap.size, 0, none⟩ 1 1 [.int .i64 v0, .int .i64 v1, .int .i64 v2] (by simp [Act.eval]) rfl (fun j u hu => three_new _ _ _ _ _ rfl hu) (by simp [Value.oneCell']) HML.out (by have := HML2.out; omega) (by have := HB2.out.size; simp; omega) ?_
              intro v5 w5 hown5 hgrow5 hat5
              obtain ⟨p5, d5, rfl⟩ := own_formP hown5
              obtain ⟨CL5, BX5, KP5⟩ := leafZ (q := (v0, v1, v2)) HCL.out HBX.out hPB hBw HB2.out hown5 hgrow5
              clear k0 k1 k2 k3 k4 k5
              obtain ⟨k0, k1, k2, k3, k4, k5⟩ := BX5.cells
              refine hK.out _ _ trivial (fun hHeld2 => ?_)
              clear hK K
              (try simp only [Act.put, List.setIfInBounds_toArray, List.set_cons_zero, List.set_cons_succ])
              refine wpAnyH_take (i := 11) (oi := { dst := some 52, op := Op.fieldAddr 55 (Operand.tmp 6) 1, type := 0, pos := "l9_puzzle.go:312", after := #[{ on := 0, ground := Ground.phase }, { on := 1, ground := Ground.phase }, { on := 2, ground := Ground.phase }, { on := 3, ground := Ground.phase }, { on := 4, ground := Ground.phase }, { on := 5, ground := Ground.phase }, { on := 6, ground := Ground.phase }, { on := 7, ground := Ground.phase }, { on := 8, ground := Ground.phase }, { on := 9, ground := Ground.phase }, { on := 10, ground := Ground.phase }], guard := none }) (v := ?_) rfl (by kernel_rfl) (by kernel_rfl) (by kernel_rfl) (fun _ _ _ h => nomatch h.1) (Or.inl ⟨by rfl, ?_⟩) (by assumption) ?_
              rotate_left
              · (intro wS hSw; go_simp; (try with_reducible rfl))
              (try simp only [Act.put, List.setIfInBounds_toArray, List.set_cons_zero, List.set_cons_succ])
              refine wpAnyH_ready (rs := [12]) (by kernel_rfl) (by simp) ?_
              refine AllReadyH.cons (o := { dst := none, op := Op.store 53 (Operand.tmp 52) (Operand.tmp 51), type := 0, pos := "l9_puzzle.go:312", after := #[{ on := 11, ground := Ground.data }, { on := 10, ground := Ground.data }, { on := 10, ground := Ground.chain }, { on := 0, ground := Ground.phase }, { on := 1, ground := Ground.phase }, { on := 2, ground := Ground.phase }, { on := 3, ground := Ground.phase }, { on := 4, ground := Ground.phase }, { on := 5, ground := Ground.phase }, { on := 6, ground := Ground.phase }, { on := 7, ground := Ground.phase }, { on := 8, ground := Ground.phase }, { on := 9, ground := Ground.phase }, { on := 10, ground := Ground.phase }], guard := none }) rfl (fun K hK => ?_) AllReadyH.nil
              go_simp
              refine hK.out _ _ trivial (fun hHeld2 => ?_)
              clear hK K
              (try simp only [Act.put, List.setIfInBounds_toArray, List.set_cons_zero, List.set_cons_succ])
              refine wpAnyH_done (by kernel_rfl) ?_ _
              exact ⟨rfl, _, BX5.put2 _, CL5.set2 hPB 2 _, KP5.set 2 _⟩
    rintro e a' w6 ⟨rfl, v5, hbx6, hcl6, hk6⟩
    have KP := HK3.out.trans hk6
    refine ⟨KP.size, KP.block _ (by omega) (by omega), KP.block _ (by omega) (by omega), KP.block _ (by omega) (by omega), HCAP.out.of KP.size (KP.block _ (by omega) (by omega)) (KP.block _ (by omega) (by omega)) (KP.block _ (by omega) (by omega)), H1.out.trans (KP.below (n := w.heap.size) (by omega) (by omega)), bzF_ofZ H2.out KP.size (KP.block _ (by omega) (by omega)), _, hbx6, ?_⟩
    rw [HNS.out]
    exact hcl6
  case done =>
    rintro W ⟨h1, h2, u, h3, h4⟩ hK
    have H1 := Lib.hid h1
    have H2 := Lib.hid h2
    have H4 := Lib.hid h4
    have HKK := Lib.hid hK
    obtain ⟨p1, d1, e1⟩ := own_formP h4
    subst e1
    obtain ⟨k0, k1, k2, k3, k4, k5⟩ := h3.cells
    obtain ⟨m0, m1, m2, m3, m4, m5⟩ := h2.cells
    clear h1 h2 h3 h4 hK hbel hbR hbP hcap hit
    gi_wp2
    generalize rdZ (spB 44 s) = qs at *
    have hws := H1.out.size
    have hK' := (put3_heap W w.heap.size t p (.slice p1 qs.length d1) (g := w3.heap.size) (by omega)).trans HKK.out
    have HLF := ((H4.out.set2 (b := w.heap.size) (by omega) 0 (.int .i64 t)).set2 (b := w.heap.size) (by omega) 1 (.int .i64 p)).set2 (b := w.heap.size) (by omega) 2 (.slice p1 qs.length d1)
    have hbF := put3_below H1.out (Nat.le_refl _) t p (.slice p1 qs.length d1)
    obtain ⟨g0, g1, g2⟩ := put3_cells H2.out t p (.slice p1 qs.length d1)
    unfold put3 at hK' hbF g0 g1 g2
    generalize ((W.setCell ⟨w.heap.size, 0, none⟩ (.int .i64 t)).setCell ⟨w.heap.size, 1, none⟩ (.int .i64 p)).setCell ⟨w.heap.size, 2, none⟩ (.slice p1 qs.length d1) = WF at *
    refine ⟨by simp, .inl ⟨_, _, rfl, run_takeDeferred hK', ?_⟩⟩
    have hp := below_putObj (n := w3.heap.size) (l := w3.heap.size) WF (.deferred none) (Nat.le_refl _)
    have g0' := (hp.cell (p := ⟨w.heap.size, 0, none⟩) (by dsimp only; omega)).trans g0
    have g1' := (hp.cell (p := ⟨w.heap.size, 1, none⟩) (by dsimp only; omega)).trans g1
    have g2' := (hp.cell (p := ⟨w.heap.size, 2, none⟩) (by dsimp only; omega)).trans g2
    refine ⟨.agg #[.int .i64 t, .int .i64 p, .slice p1 qs.length d1], ?_, ⟨_, rfl, ?_, ?_⟩⟩
    · simp [results, Tryd.f68, go_sem, g0', g1', g2']
    · rw [← HALL.out]
      exact clsZ_puz (HLF.touch ((Touch.refl w3.heap.size (w3.heap.size + 1) WF).putObj (Nat.le_refl _) (Nat.lt_succ_self _) (.deferred none)) (by omega)) (by omega) t p
    · exact hbF.trans (hp.mono (by omega))

/-- 'readPuzzle'. -/
theorem readPuzzle_any (l : List UInt8) (hl : l.length ≤ 1048576) (w : World) (hw : Set3 w) :
    Calls Tryd.prog 68 #[.string (byt l)] w fun e w' => ∃ v, e = .returned v ∧ PuzAt w' w.heap.size w'.heap.size v (ppT l) (ppP l) (ppC l) ∧ Below w.heap.size w w' := by
  by_cases h : cu2 58 l = []
  · have e : ppC l = [] := by rw [ppC, h]; rfl
    rw [e]
    exact readPuzzle_none l hl h w hw
  · exact readPuzzle_some l (cu2 58 l) hl rfl h w hw
end Go.Proofs.YtgobjobppajkbaaDoor
