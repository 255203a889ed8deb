/-
  'readOther' (gen_rdo.py).
-/
import Derived.Test.YtgobjobppajkbaaDoorPtO
import Derived.Test.YtgobjobppajkbaaDoorOpM
namespace Go.Proofs.YtgobjobppajkbaaDoor
open Go.RowKit Go.Shelf
attribute [local go_sem] Oper.semAt_some
set_option linter.unusedVariables false

theorem infoPtO : (Tryd.prog.info? 118).map (fun i => (i.zero, i.size, i.bytes)) = some (some (.agg #[.int .i64 0, .int .i64 0, .int .i64 0]), 3, 24) := by kernel_rfl
/-- What is read of the pieces. -/
def rdO (pre : List ByteArray) : List Pt := pre.map fun x => opC x.data.toList
theorem rdO_snoc (pre : List ByteArray) (x : ByteArray) : rdO (pre ++ [x]) = rdO pre ++ [opC x.data.toList] := by simp [rdO]
theorem rdO_len (pre : List ByteArray) : (rdO pre).length = pre.length := by simp [rdO]
theorem rdO_all (s : ByteArray) : rdO (spB 59 s) = opL s.data.toList := by
  rw [opL, rdO, spB, List.map_map]
  rfl
theorem cutL_any (c : UInt8) (l : List UInt8) (hl : l.length ≤ 1048576) (w : World) :
    Calls Tryd.prog 84 #[.string (byt l), .string ⟨#[c]⟩] w fun e w' => e = .returned (.tuple #[.string (byt (cu1 c l)), .string (byt (cu2 c l)), .bool (Lib.cut l [c]).2.2]) ∧ Below w.heap.size w w' :=
  cutP_any c (byt l) (by simp [byt, ByteArray.size]; omega) w

set_option maxRecDepth 100000 in
set_option maxHeartbeats 8000000 in
/-- 'readOther'. -/
theorem readOther_any (s : ByteArray) (hs : s.size ≤ 1048576) (w : World) (hw : Set3 w) :
    Calls Tryd.prog 51 #[.string s] w fun e w' => ∃ v, e = .returned v ∧ OthAt w' w.heap.size w'.heap.size v (opL s.data.toList) ∧ Below w.heap.size w w' := by
  have HW := Lib.hid hw
  have hit := fun bs b bv h1 h2 => iter_split bs b bv h1 h2 59 s hs
  have HSL := Lib.hid (spB_len 59 s)
  have HSM := Lib.hid (spB_mem 59 s)
  have HS := Lib.hid hs
  have HALL := Lib.hid (rdO_all s)
  generalize opL s.data.toList = Z at *
  obtain ⟨i0, hi, hi0, hi1, hi2⟩ := info_parts infoPtO
  have HSP := Lib.hid (fun W => splitSeq_any s ⟨#[59]⟩ W)
  clear hw
  refine (callsIn_wide (n := 10)).1 ?_
  refine callsIn_of_wp_marks Tryd.func51 rfl trivial ?_ rfl
  simp only [Tryd.ntmps51, List.size_toArray, List.length_cons, List.length_nil, Nat.reduceAdd, Nat.reduceSub, Array.replicate_succ, Array.replicate_zero, List.push_toArray, List.append_toArray, List.nil_append, List.cons_append]
  gi_wp2_with (refine ⟨trivial, ?_⟩; gi_at_call 83; refine (callsIn_wide.2 (HSP.out _)).mono ?_; rintro e w3 ⟨rfl, rfl⟩)
  have hbel : Below w.heap.size w (((((w.alloc (.cells #[.slice none 0 0] 42)).alloc (.cells #[.slice none 0 0] 42)).alloc (.cells #[.string s] 9)).alloc (.cells #[.string ⟨#[59]⟩] 9)).alloc (.cells #[.int .i64 0] 3)) := by
    refine (((((Below.refl _ w).alloc ?_ _).alloc ?_ _).alloc ?_ _).alloc ?_ _).alloc ?_ _ <;> simp <;> omega
  have hbR : BoF (((((w.alloc (.cells #[.slice none 0 0] 42)).alloc (.cells #[.slice none 0 0] 42)).alloc (.cells #[.string s] 9)).alloc (.cells #[.string ⟨#[59]⟩] 9)).alloc (.cells #[.int .i64 0] 3)) w.heap.size (.slice none 0 0) := by
    refine ⟨⟨?_, ?_⟩, ?_⟩ <;> first | (go_simp; done) | (simp; omega)
  have hbP : BoF (((((w.alloc (.cells #[.slice none 0 0] 42)).alloc (.cells #[.slice none 0 0] 42)).alloc (.cells #[.string s] 9)).alloc (.cells #[.string ⟨#[59]⟩] 9)).alloc (.cells #[.int .i64 0] 3)) (w.heap.size + 1) (.slice none 0 0) := by
    refine ⟨⟨?_, ?_⟩, ?_⟩ <;> first | (go_simp; done) | (simp; omega)
  have hcap : CapS (w.heap.size + 1 + 1 + 1) (w.heap.size + 1 + 1) (w.heap.size + 1 + 1 + 1 + 1) 59 s [] (((((w.alloc (.cells #[.slice none 0 0] 42)).alloc (.cells #[.slice none 0 0] 42)).alloc (.cells #[.string s] 9)).alloc (.cells #[.string ⟨#[59]⟩] 9)).alloc (.cells #[.int .i64 0] 3)) := by
    refine ⟨?_, ?_, ?_, fun _ => ?_, ?_, ?_, ?_⟩ <;> first | (go_simp; done) | (simp; omega)
  generalize hw3 : (((((w.alloc (.cells #[.slice none 0 0] 42)).alloc (.cells #[.slice none 0 0] 42)).alloc (.cells #[.string s] 9)).alloc (.cells #[.string ⟨#[59]⟩] 9)).alloc (.cells #[.int .i64 0] 3)) = w3 at *
  have hs1 : w3.heap.size = w.heap.size + 5 := by rw [← hw3]; simp
  clear hw3 HSP
  have hs2 : w.heap.size + 5 ≤ w3.heap.size := by omega
  have hs3 : w3.heap.size ≤ w.heap.size + 5 := by omega
  clear hs1
  refine wpIn_seqB (gf := 132) (lb := #[.pointer (some ⟨w.heap.size + 1 + 1 + 1, 0, none⟩), .pointer (some ⟨w.heap.size + 1 + 1, 0, none⟩), .pointer (some ⟨w.heap.size + 1 + 1 + 1 + 1, 0, none⟩)]) rfl (enters_of Tryd.func132 (by kernel_rfl) rfl) (b := w.heap.size + 1 + 1) (by omega)
    (hit _ _ _ (by omega) (by omega)) (fun s A C h hb => h.below (by omega) (by omega) (by omega) hb) hcap rfl
    (fun pre W => Below w.heap.size w W ∧ BoF W w.heap.size (.slice none 0 0) ∧ ∃ u, BoF W (w.heap.size + 1) u ∧ PtsAt W (w.heap.size + 7) u (rdO pre))
    (fun _ _ _ => False)
    ?hI (fun _ _ _ _ h => h.elim) ?hIb (fun _ _ _ _ h => h.elim) ⟨hbel, hbR, _, hbP, ptsAt_nil _ _⟩
    (fun x => { tmps := #[.string s, undef, .pointer (some ⟨w.heap.size, 0, none⟩), .pointer (some ⟨w.heap.size + 1, 0, none⟩), .string x, undef, undef, undef, undef, undef, undef, .string s, .func (.func 132) #[] #[.pointer (some ⟨w.heap.size + 1 + 1 + 1, 0, none⟩), .pointer (some ⟨w.heap.size + 1 + 1, 0, none⟩), .pointer (some ⟨w.heap.size + 1 + 1 + 1 + 1, 0, none⟩)], .string x, undef, undef, undef, undef, undef, undef, undef, undef, undef, undef, undef, undef, undef, undef, undef, undef, undef, undef, undef, undef, undef, undef, undef, undef, undef], defers := [] }) ?assign ?body ?done (fun _ _ _ _ h => h.elim)
  case hI =>
    rintro p A C ⟨h1, h2, u, h3, h4⟩ ht
    have hsz : w.heap.size ≤ A.heap.size := h1.size
    exact ⟨h1.trans (ht.below (by omega) (by omega)), h2.touch ht (by omega), u, h3.touch ht (by omega), h4.touch ht (by omega)⟩
  case hIb =>
    rintro p A C ⟨h1, h2, u, h3, h4⟩ ht
    have hsz : w.heap.size ≤ A.heap.size := h1.size
    exact ⟨h1.trans (ht.below (by omega) (by omega)), h2.touch ht (by omega), u, h3.touch ht (by omega), h4.touch ht (by omega)⟩
  case assign =>
    intro l x W K hK
    gi_wp2
    exact hK
  case body =>
    rintro l0 pre x W ⟨h1, h2, u, h3, h4⟩ hWs hpre hcapW
    obtain ⟨X, rfl⟩ : ∃ X, x = byt X := ⟨x.data.toList, by simp [byt]⟩
    have hlen : pre.length + 1 ≤ s.size + 1 := by
      have h := hpre.length_le
      have := HSL.out
      simp at h
      omega
    have hxl : X.length ≤ s.size := by have := HSM.out (byt X) (hpre.subset (by simp)); rwa [byt_size] at this
    have H1 := Lib.hid h1
    have H2 := Lib.hid h2
    have HCAP := Lib.hid hcapW
    have hs0 := HS.out
    have hx1 := cu1_len 110 X
    have hx2 := cu2_len 110 X
    have hx3 := cu1_len 47 (cu2 110 X)
    have hx4 := cu2_len 47 (cu2 110 X)
    have HCUT := Lib.hid (fun c q (hq : List.length q ≤ 1048576) W => cutL_any c q hq W)
    have HX0 : Hid (X.length ≤ 1048576) := Lib.hid (by omega)
    have HX1 : Hid ((cu2 110 X).length ≤ 1048576) := Lib.hid (by omega)
    have HR0 := Lib.hid (fun W hW => readP_any (cu1 110 X) (by omega) W hW)
    have HR1 := Lib.hid (fun W hW => readP_any (cu1 47 (cu2 110 X)) (by omega) W hW)
    have HR2 := Lib.hid (fun W hW => readP_any (cu2 47 (cu2 110 X)) (by omega) W hW)
    have HNS : Hid (rdO (pre ++ [byt X]) = rdO pre ++ [(numL (cu1 110 X), numL (cu1 47 (cu2 110 X)), numL (cu2 47 (cu2 110 X)))]) := Lib.hid (rdO_snoc pre (byt X))
    have hnl := rdO_len pre
    generalize rdO pre = qs at *
    generalize numL (cu1 110 X) = v0 at *
    generalize numL (cu1 47 (cu2 110 X)) = v1 at *
    generalize numL (cu2 47 (cu2 110 X)) = v2 at *
    have HML : Hid (qs.length + 1 ≤ maxLen) := Lib.hid (by unfold maxLen; omega)
    have HML2 : Hid (qs.length ≤ 1048577) := Lib.hid (by omega)
    have HB3 := Lib.hid h3
    have HL4 := Lib.hid h4
    have HBW := Lib.hid (Below.refl W.heap.size W)
    clear h1 h2 h3 h4 hpre hcapW hbel hbR hbP hcap hit hs hxl hx1 hx2 hx3 hx4 hnl hlen
    gi_wp2_with (refine ⟨trivial, ?_⟩; gi_at_call 84; refine (CallsIn.inRound l0 (callsIn_wide.2 (HCUT.out _ _ (by first | exact HX0.out | exact HX1.out) _))).mono ?_; rintro e w4 ⟨rfl, hb4⟩; replace HBW := Lib.hid (HBW.out.trans (hb4.mono HBW.out.size)); clear hb4)
    have HBX := Lib.hid (HB3.out.kept HBW.out)
    have HCL := Lib.hid (ownsRow_kept HL4.out HBW.out)
    have hPl : w.heap.size + 1 < w4.heap.size := HBX.out.1.2
    have hPB : w.heap.size + 1 < w.heap.size + 7 := by omega
    have hBw : w.heap.size + 7 ≤ w4.heap.size := by have := HBW.out.size; omega
    have HST := Lib.hid (fun V (hb : Below w4.heap.size w4 V) => HW.out.below ((H1.out.trans (HBW.out.mono H1.out.size)).trans (hb.mono (Nat.le_trans H1.out.size HBW.out.size))))
    have HK3 : Hid (KpA (w.heap.size + 7) (w.heap.size + 1) W w4) := Lib.hid (KpA.of_below HBW.out (by omega))
    obtain ⟨k0, k1⟩ := HBX.out.cells
    refine wpIn_mono (Q := fun e a' w' => e = .normal ∧ ∃ v5, BoF w' (w.heap.size + 1) v5 ∧ PtsAt w' (w.heap.size + 7) v5 (qs ++ [(v0, v1, v2)]) ∧ KpA (w.heap.size + 7) (w.heap.size + 1) w4 w') ?reg6 ?_
    case reg6 =>
      refine region_round (S := fun _ => True) (by kernel_rfl) (by kernel_rfl) (fun h => by obtain ⟨_, _, h, _⟩ := h; cases h) trivial (fun hHeld => ?_)
      refine wpAnyH_take (i := 0) (oi := { dst := some 26, op := Op.fieldAddr 42 (Operand.tmp 3) 0, type := 0, pos := "l8_other.go:314", after := #[], guard := none }) (v := ?_) rfl (by kernel_rfl) (by kernel_rfl) (by kernel_rfl) (fun _ _ _ h => nomatch h.1) (Or.inl ⟨by rfl, ?_⟩) (by assumption) ?_
      rotate_left
      · (intro wS hSw; go_simp; (try with_reducible rfl))
      (try simp only [Act.put, List.setIfInBounds_toArray, List.set_cons_zero, List.set_cons_succ])
      refine wpAnyH_take (i := 2) (oi := { dst := some 28, op := Op.move (Operand.tmp 5), type := 9, pos := "l8_other.go:314", after := #[], guard := none }) (v := ?_) rfl (by kernel_rfl) (by kernel_rfl) (by kernel_rfl) (fun _ _ _ h => nomatch h.1) (Or.inl ⟨by rfl, ?_⟩) (by assumption) ?_
      rotate_left
      · (intro wS hSw; go_simp; (try with_reducible rfl))
      (try simp only [Act.put, List.setIfInBounds_toArray, List.set_cons_zero, List.set_cons_succ])
      refine wpAnyH_take (i := 4) (oi := { dst := some 30, op := Op.move (Operand.tmp 8), type := 9, pos := "l8_other.go:314", after := #[], guard := none }) (v := ?_) rfl (by kernel_rfl) (by kernel_rfl) (by kernel_rfl) (fun _ _ _ h => nomatch h.1) (Or.inl ⟨by rfl, ?_⟩) (by assumption) ?_
      rotate_left
      · (intro wS hSw; go_simp; (try with_reducible rfl))
      (try simp only [Act.put, List.setIfInBounds_toArray, List.set_cons_zero, List.set_cons_succ])
      refine wpAnyH_take (i := 6) (oi := { dst := some 32, op := Op.move (Operand.tmp 9), type := 9, pos := "l8_other.go:314", after := #[], guard := none }) (v := ?_) rfl (by kernel_rfl) (by kernel_rfl) (by kernel_rfl) (fun _ _ _ h => nomatch h.1) (Or.inl ⟨by rfl, ?_⟩) (by assumption) ?_
      rotate_left
      · (intro wS hSw; go_simp; (try with_reducible rfl))
      (try simp only [Act.put, List.setIfInBounds_toArray, List.set_cons_zero, List.set_cons_succ])
      refine wpAnyH_ready (rs := [1, 3]) (by kernel_rfl) (by simp) ?_
      refine AllReadyH.cons (o := { dst := some 27, op := Op.load 40 (Operand.tmp 26), type := 40, pos := "l8_other.go:314", after := #[{ on := 0, ground := Ground.data }], guard := none }) rfl (fun K hK => ?_) (AllReadyH.cons (o := { dst := some 29, op := Op.call { callee := Callee.value (Operand.func 85), args := #[Operand.tmp 28], argTypes := #[9] }, type := 3, pos := "l8_other.go:314", after := #[{ on := 2, ground := Ground.data }], guard := none }) rfl (fun K hK => ?_) AllReadyH.nil)
      · go_simp
        refine hK.out _ _ trivial (fun hHeld2 => ?_)
        clear hK K
        (try simp only [Act.put, List.setIfInBounds_toArray, List.set_cons_zero, List.set_cons_succ])
        refine wpAnyH_ready (rs := [3]) (by kernel_rfl) (by simp) ?_
        refine AllReadyH.cons (o := { dst := some 29, op := Op.call { callee := Callee.value (Operand.func 85), args := #[Operand.tmp 28], argTypes := #[9] }, type := 3, pos := "l8_other.go:314", after := #[{ on := 2, ground := Ground.data }], guard := none }) rfl (fun K hK => ?_) AllReadyH.nil
        go_simp
        (go_at_call 85; refine (HR0.out _ (HST.out _ (Below.refl w4.heap.size w4).drew)).mono ?_; rintro e a0 ⟨rfl, hb⟩)
        have HB0 := Lib.hid ((Below.refl w4.heap.size w4).drew.trans (hb.mono (Below.refl w4.heap.size w4).drew.size))
        have X0 := Lib.hid (HBX.out.kept2 HB0.out hPl)
        clear hb
        obtain ⟨k0, k1⟩ := X0.out.cells
        refine hK.out _ _ trivial (fun hHeld2 => ?_)
        clear hK K
        (try simp only [Act.put, List.setIfInBounds_toArray, List.set_cons_zero, List.set_cons_succ])
        refine wpAnyH_ready (rs := [5]) (by kernel_rfl) (by simp) ?_
        refine AllReadyH.cons (o := { dst := some 31, op := Op.call { callee := Callee.value (Operand.func 85), args := #[Operand.tmp 30], argTypes := #[9] }, type := 3, pos := "l8_other.go:314", after := #[{ on := 4, ground := Ground.data }, { on := 3, ground := Ground.chain }], guard := none }) rfl (fun K hK => ?_) AllReadyH.nil
        go_simp
        (go_at_call 85; refine (HR1.out _ (HST.out _ HB0.out)).mono ?_; rintro e a1 ⟨rfl, hb⟩)
        have HB1 := Lib.hid (HB0.out.trans (hb.mono HB0.out.size))
        have X1 := Lib.hid (HBX.out.kept2 HB1.out hPl)
        clear hb k0 k1
        obtain ⟨k0, k1⟩ := X1.out.cells
        refine hK.out _ _ trivial (fun hHeld2 => ?_)
        clear hK K
        (try simp only [Act.put, List.setIfInBounds_toArray, List.set_cons_zero, List.set_cons_succ])
        refine wpAnyH_ready (rs := [7]) (by kernel_rfl) (by simp) ?_
        refine AllReadyH.cons (o := { dst := some 33, op := Op.call { callee := Callee.value (Operand.func 85), args := #[Operand.tmp 32], argTypes := #[9] }, type := 3, pos := "l8_other.go:314", after := #[{ on := 6, ground := Ground.data }, { on := 5, ground := Ground.chain }], guard := none }) rfl (fun K hK => ?_) AllReadyH.nil
        go_simp
        (go_at_call 85; refine (HR2.out _ (HST.out _ HB1.out)).mono ?_; rintro e a2 ⟨rfl, hb⟩)
        have HB2 := Lib.hid (HB1.out.trans (hb.mono HB1.out.size))
        have X2 := Lib.hid (HBX.out.kept2 HB2.out hPl)
        clear hb k0 k1
        obtain ⟨k0, k1⟩ := X2.out.cells
        refine hK.out _ _ trivial (fun hHeld2 => ?_)
        clear hK K
        (try simp only [Act.put, List.setIfInBounds_toArray, List.set_cons_zero, List.set_cons_succ])
        refine wpAnyH_take (i := 8) (oi := { dst := some 34, op := Op.build 118 #[(0, Operand.tmp 29), (1, Operand.tmp 31), (2, Operand.tmp 33)], type := 118, pos := "l8_other.go:314", after := #[{ on := 3, ground := Ground.data }, { on := 5, ground := Ground.data }, { on := 7, ground := Ground.data }], guard := none }) (v := ?_) rfl (by kernel_rfl) (by kernel_rfl) (by kernel_rfl) (fun _ _ _ h => nomatch h.1) (Or.inl ⟨by rfl, ?_⟩) (by assumption) ?_
        rotate_left
        · (intro wS hSw; go_simp; (try with_reducible rfl))
        (try simp only [Act.put, List.setIfInBounds_toArray, List.set_cons_zero, List.set_cons_succ])
        refine wpAnyH_ready (rs := [9]) (by kernel_rfl) (by simp) ?_
        refine AllReadyH.cons (o := { dst := some 35, op := Op.buildSlice 40 1 #[(0, Operand.tmp 34)], type := 40, pos := "l8_other.go:314", after := #[{ on := 8, ground := Ground.data }], guard := none }) rfl (fun K hK => ?_) AllReadyH.nil
        have Y := X2.out.kept (below_new a2 (.cells #[.int .i64 v0, .int .i64 v1, .int .i64 v2] 118))
        clear k0 k1
        obtain ⟨k0, k1⟩ := Y.cells
        clear Y
        go_simp
        refine hK.out _ _ trivial (fun hHeld2 => ?_)
        clear hK K
        (try simp only [Act.put, List.setIfInBounds_toArray, List.set_cons_zero, List.set_cons_succ])
        refine wpAnyH_ready (rs := [10]) (by kernel_rfl) (by simp) ?_
        refine AllReadyH.cons (o := { dst := some 36, op := Op.call { callee := Callee.builtin Builtin.append, args := #[Operand.tmp 27, Operand.tmp 35], argTypes := #[40, 40] }, type := 40, pos := "l8_other.go:314", after := #[{ on := 1, ground := Ground.data }, { on := 9, ground := Ground.data }, { on := 7, ground := Ground.chain }], guard := none }) rfl (fun K hK => ?_) AllReadyH.nil
        refine step_append_rd rfl (.tmp 27) (.tmp 35) 40 rfl (w.heap.size + 7) 118 i0 (.agg #[.int .i64 0, .int .i64 0, .int .i64 0]) 3 24 Tryd.underlying40 hi hi0 hi1 hi2 rfl (by decide) u _ _ (by simp [Act.eval]) (ownsRow_kept HCL.out (HB2.out.trans ((below_new a2 (.cells #[.int .i64 v0, .int .i64 v1, .int .i64 v2] 118)).mono HB2.out.size))) ⟨a2.heap.size, 0, none⟩ 1 1 [.int .i64 v0, .int .i64 v1, .int .i64 v2] (by simp [Act.eval]) rfl (fun j u hu => three_new _ _ _ _ _ rfl hu) (by simp [Value.oneCell']) HML.out (by have := HML2.out; omega) (by have := HB2.out.size; simp; omega) ?_
        intro v5 w5 hown5 hgrow5 hat5
        obtain ⟨p5, d5, rfl⟩ := own_formP hown5
        obtain ⟨CL5, BX5, KP5⟩ := leafO (q := (v0, v1, v2)) HCL.out HBX.out hPB hBw HB2.out hown5 hgrow5
        clear k0 k1
        obtain ⟨k0, k1⟩ := BX5.cells
        refine hK.out _ _ trivial (fun hHeld2 => ?_)
        clear hK K
        (try simp only [Act.put, List.setIfInBounds_toArray, List.set_cons_zero, List.set_cons_succ])
        refine wpAnyH_take (i := 11) (oi := { dst := some 37, op := Op.fieldAddr 42 (Operand.tmp 3) 0, type := 0, pos := "l8_other.go:314", after := #[{ on := 0, ground := Ground.phase }, { on := 1, ground := Ground.phase }, { on := 2, ground := Ground.phase }, { on := 3, ground := Ground.phase }, { on := 4, ground := Ground.phase }, { on := 5, ground := Ground.phase }, { on := 6, ground := Ground.phase }, { on := 7, ground := Ground.phase }, { on := 8, ground := Ground.phase }, { on := 9, ground := Ground.phase }, { on := 10, ground := Ground.phase }], guard := none }) (v := ?_) rfl (by kernel_rfl) (by kernel_rfl) (by kernel_rfl) (fun _ _ _ h => nomatch h.1) (Or.inl ⟨by rfl, ?_⟩) (by assumption) ?_
        rotate_left
        · (intro wS hSw; go_simp; (try with_reducible rfl))
        (try simp only [Act.put, List.setIfInBounds_toArray, List.set_cons_zero, List.set_cons_succ])
        refine wpAnyH_ready (rs := [12]) (by kernel_rfl) (by simp) ?_
        refine AllReadyH.cons (o := { dst := none, op := Op.store 40 (Operand.tmp 37) (Operand.tmp 36), type := 0, pos := "l8_other.go:314", after := #[{ on := 11, ground := Ground.data }, { on := 10, ground := Ground.data }, { on := 10, ground := Ground.chain }, { on := 0, ground := Ground.phase }, { on := 1, ground := Ground.phase }, { on := 2, ground := Ground.phase }, { on := 3, ground := Ground.phase }, { on := 4, ground := Ground.phase }, { on := 5, ground := Ground.phase }, { on := 6, ground := Ground.phase }, { on := 7, ground := Ground.phase }, { on := 8, ground := Ground.phase }, { on := 9, ground := Ground.phase }, { on := 10, ground := Ground.phase }], guard := none }) rfl (fun K hK => ?_) AllReadyH.nil
        go_simp
        refine hK.out _ _ trivial (fun hHeld2 => ?_)
        clear hK K
        (try simp only [Act.put, List.setIfInBounds_toArray, List.set_cons_zero, List.set_cons_succ])
        refine wpAnyH_done (by kernel_rfl) ?_ _
        exact ⟨rfl, _, BX5.set _, CL5.set2 hPB 0 _, KP5.set 0 _⟩
      · go_simp
        (go_at_call 85; refine (HR0.out _ (HST.out _ (Below.refl w4.heap.size w4).drew)).mono ?_; rintro e a0 ⟨rfl, hb⟩)
        have HB0 := Lib.hid ((Below.refl w4.heap.size w4).drew.trans (hb.mono (Below.refl w4.heap.size w4).drew.size))
        have X0 := Lib.hid (HBX.out.kept2 HB0.out hPl)
        clear hb
        obtain ⟨k0, k1⟩ := X0.out.cells
        refine hK.out _ _ trivial (fun hHeld2 => ?_)
        clear hK K
        (try simp only [Act.put, List.setIfInBounds_toArray, List.set_cons_zero, List.set_cons_succ])
        refine wpAnyH_ready (rs := [1, 5]) (by kernel_rfl) (by simp) ?_
        refine AllReadyH.cons (o := { dst := some 27, op := Op.load 40 (Operand.tmp 26), type := 40, pos := "l8_other.go:314", after := #[{ on := 0, ground := Ground.data }], guard := none }) rfl (fun K hK => ?_) (AllReadyH.cons (o := { dst := some 31, op := Op.call { callee := Callee.value (Operand.func 85), args := #[Operand.tmp 30], argTypes := #[9] }, type := 3, pos := "l8_other.go:314", after := #[{ on := 4, ground := Ground.data }, { on := 3, ground := Ground.chain }], guard := none }) rfl (fun K hK => ?_) AllReadyH.nil)
        · go_simp
          refine hK.out _ _ trivial (fun hHeld2 => ?_)
          clear hK K
          (try simp only [Act.put, List.setIfInBounds_toArray, List.set_cons_zero, List.set_cons_succ])
          refine wpAnyH_ready (rs := [5]) (by kernel_rfl) (by simp) ?_
          refine AllReadyH.cons (o := { dst := some 31, op := Op.call { callee := Callee.value (Operand.func 85), args := #[Operand.tmp 30], argTypes := #[9] }, type := 3, pos := "l8_other.go:314", after := #[{ on := 4, ground := Ground.data }, { on := 3, ground := Ground.chain }], guard := none }) rfl (fun K hK => ?_) AllReadyH.nil
          go_simp
          (go_at_call 85; refine (HR1.out _ (HST.out _ HB0.out)).mono ?_; rintro e a1 ⟨rfl, hb⟩)
          have HB1 := Lib.hid (HB0.out.trans (hb.mono HB0.out.size))
          have X1 := Lib.hid (HBX.out.kept2 HB1.out hPl)
          clear hb k0 k1
          obtain ⟨k0, k1⟩ := X1.out.cells
          refine hK.out _ _ trivial (fun hHeld2 => ?_)
          clear hK K
          (try simp only [Act.put, List.setIfInBounds_toArray, List.set_cons_zero, List.set_cons_succ])
          refine wpAnyH_ready (rs := [7]) (by kernel_rfl) (by simp) ?_
          refine AllReadyH.cons (o := { dst := some 33, op := Op.call { callee := Callee.value (Operand.func 85), args := #[Operand.tmp 32], argTypes := #[9] }, type := 3, pos := "l8_other.go:314", after := #[{ on := 6, ground := Ground.data }, { on := 5, ground := Ground.chain }], guard := none }) rfl (fun K hK => ?_) AllReadyH.nil
          go_simp
          (go_at_call 85; refine (HR2.out _ (HST.out _ HB1.out)).mono ?_; rintro e a2 ⟨rfl, hb⟩)
          have HB2 := Lib.hid (HB1.out.trans (hb.mono HB1.out.size))
          have X2 := Lib.hid (HBX.out.kept2 HB2.out hPl)
          clear hb k0 k1
          obtain ⟨k0, k1⟩ := X2.out.cells
          refine hK.out _ _ trivial (fun hHeld2 => ?_)
          clear hK K
          (try simp only [Act.put, List.setIfInBounds_toArray, List.set_cons_zero, List.set_cons_succ])
          refine wpAnyH_take (i := 8) (oi := { dst := some 34, op := Op.build 118 #[(0, Operand.tmp 29), (1, Operand.tmp 31), (2, Operand.tmp 33)], type := 118, pos := "l8_other.go:314", after := #[{ on := 3, ground := Ground.data }, { on := 5, ground := Ground.data }, { on := 7, ground := Ground.data }], guard := none }) (v := ?_) rfl (by kernel_rfl) (by kernel_rfl) (by kernel_rfl) (fun _ _ _ h => nomatch h.1) (Or.inl ⟨by rfl, ?_⟩) (by assumption) ?_
          rotate_left
          · (intro wS hSw; go_simp; (try with_reducible rfl))
          (try simp only [Act.put, List.setIfInBounds_toArray, List.set_cons_zero, List.set_cons_succ])
          refine wpAnyH_ready (rs := [9]) (by kernel_rfl) (by simp) ?_
          refine AllReadyH.cons (o := { dst := some 35, op := Op.buildSlice 40 1 #[(0, Operand.tmp 34)], type := 40, pos := "l8_other.go:314", after := #[{ on := 8, ground := Ground.data }], guard := none }) rfl (fun K hK => ?_) AllReadyH.nil
          have Y := X2.out.kept (below_new a2 (.cells #[.int .i64 v0, .int .i64 v1, .int .i64 v2] 118))
          clear k0 k1
          obtain ⟨k0, k1⟩ := Y.cells
          clear Y
          go_simp
          refine hK.out _ _ trivial (fun hHeld2 => ?_)
          clear hK K
          (try simp only [Act.put, List.setIfInBounds_toArray, List.set_cons_zero, List.set_cons_succ])
          refine wpAnyH_ready (rs := [10]) (by kernel_rfl) (by simp) ?_
          refine AllReadyH.cons (o := { dst := some 36, op := Op.call { callee := Callee.builtin Builtin.append, args := #[Operand.tmp 27, Operand.tmp 35], argTypes := #[40, 40] }, type := 40, pos := "l8_other.go:314", after := #[{ on := 1, ground := Ground.data }, { on := 9, ground := Ground.data }, { on := 7, ground := Ground.chain }], guard := none }) rfl (fun K hK => ?_) AllReadyH.nil
          refine step_append_rd rfl (.tmp 27) (.tmp 35) 40 rfl (w.heap.size + 7) 118 i0 (.agg #[.int .i64 0, .int .i64 0, .int .i64 0]) 3 24 Tryd.underlying40 hi hi0 hi1 hi2 rfl (by decide) u _ _ (by simp [Act.eval]) (ownsRow_kept HCL.out (HB2.out.trans ((below_new a2 (.cells #[.int .i64 v0, .int .i64 v1, .int .i64 v2] 118)).mono HB2.out.size))) ⟨a2.heap.size, 0, none⟩ 1 1 [.int .i64 v0, .int .i64 v1, .int .i64 v2] (by simp [Act.eval]) rfl (fun j u hu => three_new _ _ _ _ _ rfl hu) (by simp [Value.oneCell']) HML.out (by have := HML2.out; omega) (by have := HB2.out.size; simp; omega) ?_
          intro v5 w5 hown5 hgrow5 hat5
          obtain ⟨p5, d5, rfl⟩ := own_formP hown5
          obtain ⟨CL5, BX5, KP5⟩ := leafO (q := (v0, v1, v2)) HCL.out HBX.out hPB hBw HB2.out hown5 hgrow5
          clear k0 k1
          obtain ⟨k0, k1⟩ := BX5.cells
          refine hK.out _ _ trivial (fun hHeld2 => ?_)
          clear hK K
          (try simp only [Act.put, List.setIfInBounds_toArray, List.set_cons_zero, List.set_cons_succ])
          refine wpAnyH_take (i := 11) (oi := { dst := some 37, op := Op.fieldAddr 42 (Operand.tmp 3) 0, type := 0, pos := "l8_other.go:314", after := #[{ on := 0, ground := Ground.phase }, { on := 1, ground := Ground.phase }, { on := 2, ground := Ground.phase }, { on := 3, ground := Ground.phase }, { on := 4, ground := Ground.phase }, { on := 5, ground := Ground.phase }, { on := 6, ground := Ground.phase }, { on := 7, ground := Ground.phase }, { on := 8, ground := Ground.phase }, { on := 9, ground := Ground.phase }, { on := 10, ground := Ground.phase }], guard := none }) (v := ?_) rfl (by kernel_rfl) (by kernel_rfl) (by kernel_rfl) (fun _ _ _ h => nomatch h.1) (Or.inl ⟨by rfl, ?_⟩) (by assumption) ?_
          rotate_left
          · (intro wS hSw; go_simp; (try with_reducible rfl))
          (try simp only [Act.put, List.setIfInBounds_toArray, List.set_cons_zero, List.set_cons_succ])
          refine wpAnyH_ready (rs := [12]) (by kernel_rfl) (by simp) ?_
          refine AllReadyH.cons (o := { dst := none, op := Op.store 40 (Operand.tmp 37) (Operand.tmp 36), type := 0, pos := "l8_other.go:314", after := #[{ on := 11, ground := Ground.data }, { on := 10, ground := Ground.data }, { on := 10, ground := Ground.chain }, { on := 0, ground := Ground.phase }, { on := 1, ground := Ground.phase }, { on := 2, ground := Ground.phase }, { on := 3, ground := Ground.phase }, { on := 4, ground := Ground.phase }, { on := 5, ground := Ground.phase }, { on := 6, ground := Ground.phase }, { on := 7, ground := Ground.phase }, { on := 8, ground := Ground.phase }, { on := 9, ground := Ground.phase }, { on := 10, ground := Ground.phase }], guard := none }) rfl (fun K hK => ?_) AllReadyH.nil
          go_simp
          refine hK.out _ _ trivial (fun hHeld2 => ?_)
          clear hK K
          (try simp only [Act.put, List.setIfInBounds_toArray, List.set_cons_zero, List.set_cons_succ])
          refine wpAnyH_done (by kernel_rfl) ?_ _
          exact ⟨rfl, _, BX5.set _, CL5.set2 hPB 0 _, KP5.set 0 _⟩
        · go_simp
          (go_at_call 85; refine (HR1.out _ (HST.out _ HB0.out)).mono ?_; rintro e a1 ⟨rfl, hb⟩)
          have HB1 := Lib.hid (HB0.out.trans (hb.mono HB0.out.size))
          have X1 := Lib.hid (HBX.out.kept2 HB1.out hPl)
          clear hb k0 k1
          obtain ⟨k0, k1⟩ := X1.out.cells
          refine hK.out _ _ trivial (fun hHeld2 => ?_)
          clear hK K
          (try simp only [Act.put, List.setIfInBounds_toArray, List.set_cons_zero, List.set_cons_succ])
          refine wpAnyH_ready (rs := [1, 7]) (by kernel_rfl) (by simp) ?_
          refine AllReadyH.cons (o := { dst := some 27, op := Op.load 40 (Operand.tmp 26), type := 40, pos := "l8_other.go:314", after := #[{ on := 0, ground := Ground.data }], guard := none }) rfl (fun K hK => ?_) (AllReadyH.cons (o := { dst := some 33, op := Op.call { callee := Callee.value (Operand.func 85), args := #[Operand.tmp 32], argTypes := #[9] }, type := 3, pos := "l8_other.go:314", after := #[{ on := 6, ground := Ground.data }, { on := 5, ground := Ground.chain }], guard := none }) rfl (fun K hK => ?_) AllReadyH.nil)
          · go_simp
            refine hK.out _ _ trivial (fun hHeld2 => ?_)
            clear hK K
            (try simp only [Act.put, List.setIfInBounds_toArray, List.set_cons_zero, List.set_cons_succ])
            refine wpAnyH_ready (rs := [7]) (by kernel_rfl) (by simp) ?_
            refine AllReadyH.cons (o := { dst := some 33, op := Op.call { callee := Callee.value (Operand.func 85), args := #[Operand.tmp 32], argTypes := #[9] }, type := 3, pos := "l8_other.go:314", after := #[{ on := 6, ground := Ground.data }, { on := 5, ground := Ground.chain }], guard := none }) rfl (fun K hK => ?_) AllReadyH.nil
            go_simp
            (go_at_call 85; refine (HR2.out _ (HST.out _ HB1.out)).mono ?_; rintro e a2 ⟨rfl, hb⟩)
            have HB2 := Lib.hid (HB1.out.trans (hb.mono HB1.out.size))
            have X2 := Lib.hid (HBX.out.kept2 HB2.out hPl)
            clear hb k0 k1
            obtain ⟨k0, k1⟩ := X2.out.cells
            refine hK.out _ _ trivial (fun hHeld2 => ?_)
            clear hK K
            (try simp only [Act.put, List.setIfInBounds_toArray, List.set_cons_zero, List.set_cons_succ])
            refine wpAnyH_take (i := 8) (oi := { dst := some 34, op := Op.build 118 #[(0, Operand.tmp 29), (1, Operand.tmp 31), (2, Operand.tmp 33)], type := 118, pos := "l8_other.go:314", after := #[{ on := 3, ground := Ground.data }, { on := 5, ground := Ground.data }, { on := 7, ground := Ground.data }], guard := none }) (v := ?_) rfl (by kernel_rfl) (by kernel_rfl) (by kernel_rfl) (fun _ _ _ h => nomatch h.1) (Or.inl ⟨by rfl, ?_⟩) (by assumption) ?_
            rotate_left
            · (intro wS hSw; go_simp; (try with_reducible rfl))
            (try simp only [Act.put, List.setIfInBounds_toArray, List.set_cons_zero, List.set_cons_succ])
            refine wpAnyH_ready (rs := [9]) (by kernel_rfl) (by simp) ?_
            refine AllReadyH.cons (o := { dst := some 35, op := Op.buildSlice 40 1 #[(0, Operand.tmp 34)], type := 40, pos := "l8_other.go:314", after := #[{ on := 8, ground := Ground.data }], guard := none }) rfl (fun K hK => ?_) AllReadyH.nil
            have Y := X2.out.kept (below_new a2 (.cells #[.int .i64 v0, .int .i64 v1, .int .i64 v2] 118))
            clear k0 k1
            obtain ⟨k0, k1⟩ := Y.cells
            clear Y
            go_simp
            refine hK.out _ _ trivial (fun hHeld2 => ?_)
            clear hK K
            (try simp only [Act.put, List.setIfInBounds_toArray, List.set_cons_zero, List.set_cons_succ])
            refine wpAnyH_ready (rs := [10]) (by kernel_rfl) (by simp) ?_
            refine AllReadyH.cons (o := { dst := some 36, op := Op.call { callee := Callee.builtin Builtin.append, args := #[Operand.tmp 27, Operand.tmp 35], argTypes := #[40, 40] }, type := 40, pos := "l8_other.go:314", after := #[{ on := 1, ground := Ground.data }, { on := 9, ground := Ground.data }, { on := 7, ground := Ground.chain }], guard := none }) rfl (fun K hK => ?_) AllReadyH.nil
            refine step_append_rd rfl (.tmp 27) (.tmp 35) 40 rfl (w.heap.size + 7) 118 i0 (.agg #[.int .i64 0, .int .i64 0, .int .i64 0]) 3 24 Tryd.underlying40 hi hi0 hi1 hi2 rfl (by decide) u _ _ (by simp [Act.eval]) (ownsRow_kept HCL.out (HB2.out.trans ((below_new a2 (.cells #[.int .i64 v0, .int .i64 v1, .int .i64 v2] 118)).mono HB2.out.size))) ⟨a2.heap.size, 0, none⟩ 1 1 [.int .i64 v0, .int .i64 v1, .int .i64 v2] (by simp [Act.eval]) rfl (fun j u hu => three_new _ _ _ _ _ rfl hu) (by simp [Value.oneCell']) HML.out (by have := HML2.out; omega) (by have := HB2.out.size; simp; omega) ?_
            intro v5 w5 hown5 hgrow5 hat5
            obtain ⟨p5, d5, rfl⟩ := own_formP hown5
            obtain ⟨CL5, BX5, KP5⟩ := leafO (q := (v0, v1, v2)) HCL.out HBX.out hPB hBw HB2.out hown5 hgrow5
            clear k0 k1
            obtain ⟨k0, k1⟩ := BX5.cells
            refine hK.out _ _ trivial (fun hHeld2 => ?_)
            clear hK K
            (try simp only [Act.put, List.setIfInBounds_toArray, List.set_cons_zero, List.set_cons_succ])
            refine wpAnyH_take (i := 11) (oi := { dst := some 37, op := Op.fieldAddr 42 (Operand.tmp 3) 0, type := 0, pos := "l8_other.go:314", after := #[{ on := 0, ground := Ground.phase }, { on := 1, ground := Ground.phase }, { on := 2, ground := Ground.phase }, { on := 3, ground := Ground.phase }, { on := 4, ground := Ground.phase }, { on := 5, ground := Ground.phase }, { on := 6, ground := Ground.phase }, { on := 7, ground := Ground.phase }, { on := 8, ground := Ground.phase }, { on := 9, ground := Ground.phase }, { on := 10, ground := Ground.phase }], guard := none }) (v := ?_) rfl (by kernel_rfl) (by kernel_rfl) (by kernel_rfl) (fun _ _ _ h => nomatch h.1) (Or.inl ⟨by rfl, ?_⟩) (by assumption) ?_
            rotate_left
            · (intro wS hSw; go_simp; (try with_reducible rfl))
            (try simp only [Act.put, List.setIfInBounds_toArray, List.set_cons_zero, List.set_cons_succ])
            refine wpAnyH_ready (rs := [12]) (by kernel_rfl) (by simp) ?_
            refine AllReadyH.cons (o := { dst := none, op := Op.store 40 (Operand.tmp 37) (Operand.tmp 36), type := 0, pos := "l8_other.go:314", after := #[{ on := 11, ground := Ground.data }, { on := 10, ground := Ground.data }, { on := 10, ground := Ground.chain }, { on := 0, ground := Ground.phase }, { on := 1, ground := Ground.phase }, { on := 2, ground := Ground.phase }, { on := 3, ground := Ground.phase }, { on := 4, ground := Ground.phase }, { on := 5, ground := Ground.phase }, { on := 6, ground := Ground.phase }, { on := 7, ground := Ground.phase }, { on := 8, ground := Ground.phase }, { on := 9, ground := Ground.phase }, { on := 10, ground := Ground.phase }], guard := none }) rfl (fun K hK => ?_) AllReadyH.nil
            go_simp
            refine hK.out _ _ trivial (fun hHeld2 => ?_)
            clear hK K
            (try simp only [Act.put, List.setIfInBounds_toArray, List.set_cons_zero, List.set_cons_succ])
            refine wpAnyH_done (by kernel_rfl) ?_ _
            exact ⟨rfl, _, BX5.set _, CL5.set2 hPB 0 _, KP5.set 0 _⟩
          · go_simp
            (go_at_call 85; refine (HR2.out _ (HST.out _ HB1.out)).mono ?_; rintro e a2 ⟨rfl, hb⟩)
            have HB2 := Lib.hid (HB1.out.trans (hb.mono HB1.out.size))
            have X2 := Lib.hid (HBX.out.kept2 HB2.out hPl)
            clear hb k0 k1
            obtain ⟨k0, k1⟩ := X2.out.cells
            refine hK.out _ _ trivial (fun hHeld2 => ?_)
            clear hK K
            (try simp only [Act.put, List.setIfInBounds_toArray, List.set_cons_zero, List.set_cons_succ])
            refine wpAnyH_take (i := 8) (oi := { dst := some 34, op := Op.build 118 #[(0, Operand.tmp 29), (1, Operand.tmp 31), (2, Operand.tmp 33)], type := 118, pos := "l8_other.go:314", after := #[{ on := 3, ground := Ground.data }, { on := 5, ground := Ground.data }, { on := 7, ground := Ground.data }], guard := none }) (v := ?_) rfl (by kernel_rfl) (by kernel_rfl) (by kernel_rfl) (fun _ _ _ h => nomatch h.1) (Or.inl ⟨by rfl, ?_⟩) (by assumption) ?_
            rotate_left
            · (intro wS hSw; go_simp; (try with_reducible rfl))
            (try simp only [Act.put, List.setIfInBounds_toArray, List.set_cons_zero, List.set_cons_succ])
            refine wpAnyH_ready (rs := [1, 9]) (by kernel_rfl) (by simp) ?_
            refine AllReadyH.cons (o := { dst := some 27, op := Op.load 40 (Operand.tmp 26), type := 40, pos := "l8_other.go:314", after := #[{ on := 0, ground := Ground.data }], guard := none }) rfl (fun K hK => ?_) (AllReadyH.cons (o := { dst := some 35, op := Op.buildSlice 40 1 #[(0, Operand.tmp 34)], type := 40, pos := "l8_other.go:314", after := #[{ on := 8, ground := Ground.data }], guard := none }) rfl (fun K hK => ?_) AllReadyH.nil)
            · go_simp
              refine hK.out _ _ trivial (fun hHeld2 => ?_)
              clear hK K
              (try simp only [Act.put, List.setIfInBounds_toArray, List.set_cons_zero, List.set_cons_succ])
              refine wpAnyH_ready (rs := [9]) (by kernel_rfl) (by simp) ?_
              refine AllReadyH.cons (o := { dst := some 35, op := Op.buildSlice 40 1 #[(0, Operand.tmp 34)], type := 40, pos := "l8_other.go:314", after := #[{ on := 8, ground := Ground.data }], guard := none }) rfl (fun K hK => ?_) AllReadyH.nil
              have Y := X2.out.kept (below_new a2 (.cells #[.int .i64 v0, .int .i64 v1, .int .i64 v2] 118))
              clear k0 k1
              obtain ⟨k0, k1⟩ := Y.cells
              clear Y
              go_simp
              refine hK.out _ _ trivial (fun hHeld2 => ?_)
              clear hK K
              (try simp only [Act.put, List.setIfInBounds_toArray, List.set_cons_zero, List.set_cons_succ])
              refine wpAnyH_ready (rs := [10]) (by kernel_rfl) (by simp) ?_
              refine AllReadyH.cons (o := { dst := some 36, op := Op.call { callee := Callee.builtin Builtin.append, args := #[Operand.tmp 27, Operand.tmp 35], argTypes := #[40, 40] }, type := 40, pos := "l8_other.go:314", after := #[{ on := 1, ground := Ground.data }, { on := 9, ground := Ground.data }, { on := 7, ground := Ground.chain }], guard := none }) rfl (fun K hK => ?_) AllReadyH.nil
              refine step_append_rd rfl (.tmp 27) (.tmp 35) 40 rfl (w.heap.size + 7) 118 i0 (.agg #[.int .i64 0, .int .i64 0, .int .i64 0]) 3 24 Tryd.underlying40 hi hi0 hi1 hi2 rfl (by decide) u _ _ (by simp [Act.eval]) (ownsRow_kept HCL.out (HB2.out.trans ((below_new a2 (.cells #[.int .i64 v0, .int .i64 v1, .int .i64 v2] 118)).mono HB2.out.size))) ⟨a2.heap.size, 0, none⟩ 1 1 [.int .i64 v0, .int .i64 v1, .int .i64 v2] (by simp [Act.eval]) rfl (fun j u hu => three_new _ _ _ _ _ rfl hu) (by simp [Value.oneCell']) HML.out (by have := HML2.out; omega) (by have := HB2.out.size; simp; omega) ?_
              intro v5 w5 hown5 hgrow5 hat5
              obtain ⟨p5, d5, rfl⟩ := own_formP hown5
              obtain ⟨CL5, BX5, KP5⟩ := leafO (q := (v0, v1, v2)) HCL.out HBX.out hPB hBw HB2.out hown5 hgrow5
              clear k0 k1
              obtain ⟨k0, k1⟩ := BX5.cells
              refine hK.out _ _ trivial (fun hHeld2 => ?_)
              clear hK K
              (try simp only [Act.put, List.setIfInBounds_toArray, List.set_cons_zero, List.set_cons_succ])
              refine wpAnyH_take (i := 11) (oi := { dst := some 37, op := Op.fieldAddr 42 (Operand.tmp 3) 0, type := 0, pos := "l8_other.go:314", after := #[{ on := 0, ground := Ground.phase }, { on := 1, ground := Ground.phase }, { on := 2, ground := Ground.phase }, { on := 3, ground := Ground.phase }, { on := 4, ground := Ground.phase }, { on := 5, ground := Ground.phase }, { on := 6, ground := Ground.phase }, { on := 7, ground := Ground.phase }, { on := 8, ground := Ground.phase }, { on := 9, ground := Ground.phase }, { on := 10, ground := Ground.phase }], guard := none }) (v := ?_) rfl (by kernel_rfl) (by kernel_rfl) (by kernel_rfl) (fun _ _ _ h => nomatch h.1) (Or.inl ⟨by rfl, ?_⟩) (by assumption) ?_
              rotate_left
              · (intro wS hSw; go_simp; (try with_reducible rfl))
              (try simp only [Act.put, List.setIfInBounds_toArray, List.set_cons_zero, List.set_cons_succ])
              refine wpAnyH_ready (rs := [12]) (by kernel_rfl) (by simp) ?_
              refine AllReadyH.cons (o := { dst := none, op := Op.store 40 (Operand.tmp 37) (Operand.tmp 36), type := 0, pos := "l8_other.go:314", after := #[{ on := 11, ground := Ground.data }, { on := 10, ground := Ground.data }, { on := 10, ground := Ground.chain }, { on := 0, ground := Ground.phase }, { on := 1, ground := Ground.phase }, { on := 2, ground := Ground.phase }, { on := 3, ground := Ground.phase }, { on := 4, ground := Ground.phase }, { on := 5, ground := Ground.phase }, { on := 6, ground := Ground.phase }, { on := 7, ground := Ground.phase }, { on := 8, ground := Ground.phase }, { on := 9, ground := Ground.phase }, { on := 10, ground := Ground.phase }], guard := none }) rfl (fun K hK => ?_) AllReadyH.nil
              go_simp
              refine hK.out _ _ trivial (fun hHeld2 => ?_)
              clear hK K
              (try simp only [Act.put, List.setIfInBounds_toArray, List.set_cons_zero, List.set_cons_succ])
              refine wpAnyH_done (by kernel_rfl) ?_ _
              exact ⟨rfl, _, BX5.set _, CL5.set2 hPB 0 _, KP5.set 0 _⟩
            · have Y := X2.out.kept (below_new a2 (.cells #[.int .i64 v0, .int .i64 v1, .int .i64 v2] 118))
              clear k0 k1
              obtain ⟨k0, k1⟩ := Y.cells
              clear Y
              go_simp
              refine hK.out _ _ trivial (fun hHeld2 => ?_)
              clear hK K
              (try simp only [Act.put, List.setIfInBounds_toArray, List.set_cons_zero, List.set_cons_succ])
              refine wpAnyH_ready (rs := [1]) (by kernel_rfl) (by simp) ?_
              refine AllReadyH.cons (o := { dst := some 27, op := Op.load 40 (Operand.tmp 26), type := 40, pos := "l8_other.go:314", after := #[{ on := 0, ground := Ground.data }], guard := none }) rfl (fun K hK => ?_) AllReadyH.nil
              go_simp
              refine hK.out _ _ trivial (fun hHeld2 => ?_)
              clear hK K
              (try simp only [Act.put, List.setIfInBounds_toArray, List.set_cons_zero, List.set_cons_succ])
              refine wpAnyH_ready (rs := [10]) (by kernel_rfl) (by simp) ?_
              refine AllReadyH.cons (o := { dst := some 36, op := Op.call { callee := Callee.builtin Builtin.append, args := #[Operand.tmp 27, Operand.tmp 35], argTypes := #[40, 40] }, type := 40, pos := "l8_other.go:314", after := #[{ on := 1, ground := Ground.data }, { on := 9, ground := Ground.data }, { on := 7, ground := Ground.chain }], guard := none }) rfl (fun K hK => ?_) AllReadyH.nil
              refine step_append_rd rfl (.tmp 27) (.tmp 35) 40 rfl (w.heap.size + 7) 118 i0 (.agg #[.int .i64 0, .int .i64 0, .int .i64 0]) 3 24 Tryd.underlying40 hi hi0 hi1 hi2 rfl (by decide) u _ _ (by simp [Act.eval]) (ownsRow_kept HCL.out (HB2.out.trans ((below_new a2 (.cells #[.int .i64 v0, .int .i64 v1, .int .i64 v2] 118)).mono HB2.out.size))) ⟨a2.heap.size, 0, none⟩ 1 1 [.int .i64 v0, .int .i64 v1, .int .i64 v2] (by simp [Act.eval]) rfl (fun j u hu => three_new _ _ _ _ _ rfl hu) (by simp [Value.oneCell']) HML.out (by have := HML2.out; omega) (by have := HB2.out.size; simp; omega) ?_
              intro v5 w5 hown5 hgrow5 hat5
              obtain ⟨p5, d5, rfl⟩ := own_formP hown5
              obtain ⟨CL5, BX5, KP5⟩ := leafO (q := (v0, v1, v2)) HCL.out HBX.out hPB hBw HB2.out hown5 hgrow5
              clear k0 k1
              obtain ⟨k0, k1⟩ := BX5.cells
              refine hK.out _ _ trivial (fun hHeld2 => ?_)
              clear hK K
              (try simp only [Act.put, List.setIfInBounds_toArray, List.set_cons_zero, List.set_cons_succ])
              refine wpAnyH_take (i := 11) (oi := { dst := some 37, op := Op.fieldAddr 42 (Operand.tmp 3) 0, type := 0, pos := "l8_other.go:314", after := #[{ on := 0, ground := Ground.phase }, { on := 1, ground := Ground.phase }, { on := 2, ground := Ground.phase }, { on := 3, ground := Ground.phase }, { on := 4, ground := Ground.phase }, { on := 5, ground := Ground.phase }, { on := 6, ground := Ground.phase }, { on := 7, ground := Ground.phase }, { on := 8, ground := Ground.phase }, { on := 9, ground := Ground.phase }, { on := 10, ground := Ground.phase }], guard := none }) (v := ?_) rfl (by kernel_rfl) (by kernel_rfl) (by kernel_rfl) (fun _ _ _ h => nomatch h.1) (Or.inl ⟨by rfl, ?_⟩) (by assumption) ?_
              rotate_left
              · (intro wS hSw; go_simp; (try with_reducible rfl))
              (try simp only [Act.put, List.setIfInBounds_toArray, List.set_cons_zero, List.set_cons_succ])
              refine wpAnyH_ready (rs := [12]) (by kernel_rfl) (by simp) ?_
              refine AllReadyH.cons (o := { dst := none, op := Op.store 40 (Operand.tmp 37) (Operand.tmp 36), type := 0, pos := "l8_other.go:314", after := #[{ on := 11, ground := Ground.data }, { on := 10, ground := Ground.data }, { on := 10, ground := Ground.chain }, { on := 0, ground := Ground.phase }, { on := 1, ground := Ground.phase }, { on := 2, ground := Ground.phase }, { on := 3, ground := Ground.phase }, { on := 4, ground := Ground.phase }, { on := 5, ground := Ground.phase }, { on := 6, ground := Ground.phase }, { on := 7, ground := Ground.phase }, { on := 8, ground := Ground.phase }, { on := 9, ground := Ground.phase }, { on := 10, ground := Ground.phase }], guard := none }) rfl (fun K hK => ?_) AllReadyH.nil
              go_simp
              refine hK.out _ _ trivial (fun hHeld2 => ?_)
              clear hK K
              (try simp only [Act.put, List.setIfInBounds_toArray, List.set_cons_zero, List.set_cons_succ])
              refine wpAnyH_done (by kernel_rfl) ?_ _
              exact ⟨rfl, _, BX5.set _, CL5.set2 hPB 0 _, KP5.set 0 _⟩
    rintro e a' w6 ⟨rfl, v5, hbx6, hcl6, hk6⟩
    have KP := HK3.out.trans hk6
    refine ⟨KP.size, KP.block _ (by omega) (by omega), KP.block _ (by omega) (by omega), KP.block _ (by omega) (by omega), HCAP.out.of KP.size (KP.block _ (by omega) (by omega)) (KP.block _ (by omega) (by omega)) (KP.block _ (by omega) (by omega)), H1.out.trans (KP.below (n := w.heap.size) (by omega) (by omega)), H2.out.of KP.size (KP.block _ (by omega) (by omega)), _, hbx6, ?_⟩
    rw [HNS.out]
    exact hcl6
  case done =>
    rintro W ⟨h1, h2, u, h3, h4⟩ hK
    have H1 := Lib.hid h1
    have H2 := Lib.hid h2
    have H4 := Lib.hid h4
    have HKK := Lib.hid hK
    obtain ⟨p1, d1, e1⟩ := own_formP h4
    subst e1
    obtain ⟨k0, k1⟩ := h3.cells
    obtain ⟨m0, m1⟩ := h2.cells
    clear h1 h2 h3 h4 hK hbel hbR hbP hcap hit
    gi_wp2
    generalize rdO (spB 59 s) = qs at *
    have hws := H1.out.size
    have hK' := (setO_heap W w.heap.size (.slice p1 qs.length d1) (g := w3.heap.size) (by omega)).trans HKK.out
    have HLF := H4.out.set2 (b := w.heap.size) (by omega) 0 (.slice p1 qs.length d1)
    have hbF := H1.out.setCell (p := ⟨w.heap.size, 0, none⟩) (Nat.le_refl _) (.slice p1 qs.length d1)
    have g0 := (H2.out.set (.slice p1 qs.length d1)).1.1
    generalize W.setCell ⟨w.heap.size, 0, none⟩ (.slice p1 qs.length d1) = WF at *
    refine ⟨by simp, .inl ⟨_, _, rfl, run_takeDeferred hK', ?_⟩⟩
    have hp := below_putObj (n := w3.heap.size) (l := w3.heap.size) WF (.deferred none) (Nat.le_refl _)
    have g0' := (hp.cell (p := ⟨w.heap.size, 0, none⟩) (by dsimp only; omega)).trans g0
    refine ⟨.agg #[.slice p1 qs.length d1], ?_, ⟨_, rfl, ?_, ?_⟩⟩
    · simp [results, Tryd.f51, go_sem, g0']
    · rw [← HALL.out]
      exact ptsO_oth (HLF.touch ((Touch.refl w3.heap.size (w3.heap.size + 1) WF).putObj (Nat.le_refl _) (Nat.lt_succ_self _) (.deferred none)) (by omega)) (by omega)
    · exact hbF.trans (hp.mono (by omega))
end Go.Proofs.YtgobjobppajkbaaDoor
