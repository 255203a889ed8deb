/-
  'maParse' of the model (gen_mps.py).
-/
import Derived.Test.YtgobjobppajkbaaDoorSpS
import Derived.Test.YtgobjobppajkbaaDoorTold
import Derived.Deep.RegionHeld3
import Derived.Deep.CutRange
namespace Go.Proofs.YtgobjobppajkbaaDoor
open Go.RowKit
set_option linter.unusedVariables false

/-- What is read of the pieces. -/
def mpN (ps : List (List UInt8)) : List Int := ps.map fun p => rdL ((spl 47 p).getD 0 [])
def mpD (ps : List (List UInt8)) : List Int := ps.map fun p => rdL ((spl 47 p).getD 1 [])
theorem mpN_len (ps : List (List UInt8)) : (mpN ps).length = ps.length := by simp [mpN]
theorem mpD_len (ps : List (List UInt8)) : (mpD ps).length = ps.length := by simp [mpD]
theorem mpN_next {ps : List (List UInt8)} {j : Nat} {p : List UInt8} (h : ps[j]? = some p) : mpN (ps.take (j + 1)) = mpN (ps.take j) ++ [rdL ((spl 47 p).getD 0 [])] := by
  rw [List.take_add_one, h]; simp [mpN]
theorem mpD_next {ps : List (List UInt8)} {j : Nat} {p : List UInt8} (h : ps[j]? = some p) : mpD (ps.take (j + 1)) = mpD (ps.take j) ++ [rdL ((spl 47 p).getD 1 [])] := by
  rw [List.take_add_one, h]; simp [mpD]
/-- Is each a pair? -/
def mpT (ps : List (List UInt8)) : Bool := ps.all fun p => (spl 47 p).length == 2
theorem mpT_next {ps : List (List UInt8)} {j : Nat} {p : List UInt8} (h : ps[j]? = some p) : mpT (ps.take (j + 1)) = (mpT (ps.take j) && (spl 47 p).length == 2) := by
  rw [List.take_add_one, h]; simp [mpT]
theorem mpT_not {ps : List (List UInt8)} {j : Nat} {p : List UInt8} (h : ps[j]? = some p) (hn : (spl 47 p).length ≠ 2) : mpT ps = false := by
  have hm : p ∈ ps := List.mem_of_getElem? h
  simp only [mpT, List.all_eq_false]
  exact ⟨p, hm, by simpa using hn⟩
/-- Does the list of pieces tell a machine? -/
def mpOk (l : List UInt8) : Bool := mpT (spl 44 l) && maB (mpN (spl 44 l)) (mpD (spl 44 l))
theorem addr_j (g j : Nat) : (⟨g, 0, none⟩ : Addr).add j = ⟨g, j, none⟩ := by cases j <;> simp [Addr.add]
theorem two_of : ∀ {l : List (List UInt8)}, l.length = 2 → ∃ a b, l = [a, b]
  | [a, b], _ => ⟨a, b, rfl⟩
theorem txV_at {ps : List (List UInt8)} {j : Nat} {p : List UInt8} (h : ps[j]? = some p) : (txV ps)[j]? = some (.string (byt p)) := by
  simp [txV, h]
theorem grow_far {w3 w5 : World} {B n g2 : Nat} {u1 : Value} {vs : List Value} (h : w3.ownsRow B 3 1 u1 n vs) (hlt : g2 < w3.heap.size) (hne : u1.ownBlock ≠ some g2) {v : Int} (hg : (w3.drew.alloc (.cells #[.int .i64 v] 3)).grownBy w5 u1.ownBlock) : w5.heap[g2]? = w3.heap[g2]? :=
  (hg.block g2 (by simp; omega) (fun e => hne e.symm)).trans ((below_alloc w3.drew (.cells #[.int .i64 v] 3)).block g2 (by simpa using hlt))

set_option maxRecDepth 100000 in
set_option maxHeartbeats 8000000 in
theorem maParse0 (l : List UInt8) (hl : l.length ≤ 200) (hne : ((byt l).toList == [45]) = false) (w : World) :
    Calls Tryd.prog 45 #[.string (byt l)] w (RetMac (tdX (mpOk l) (mpN (spl 44 l))) (tdX (mpOk l) (mpD (spl 44 l))) (mpOk l) w) := by
  have hsz : (((byt l).size : Nat) : Int) = (l.length : Int) := by rw [dbl]
  have hl2 : ¬ 200 < (l.length : Int) := by omega
  have HS := Lib.hid (fun W => l1Split_any l 44 (by omega) W)
  obtain ⟨i0, hi, hi0, hi1, hi2⟩ := info_parts infoI
  have HPL := Lib.hid (spl_len 44 l)
  have HPM := Lib.hid (spl_mem 44 l)
  have HNE := Lib.hid (List.length_pos_iff.2 (spl_ne 44 l))
  go_enter Tryd.func45, Tryd.ntmps45
  go_wp2_with fail
  refine (HS.out _).mono ?_
  rintro e w1 ⟨v1, rfl, hrow, hb1⟩
  obtain ⟨g, cap, rfl, hg1, hg2⟩ := World.ownsRow.form hrow HNE.out
  go_wp2_with fail
  have hb01 : Below w.heap.size w w1 := (((Below.refl _ w).alloc (Nat.le_refl _) _).alloc (by simp) _).trans (hb1.mono (by simp; omega))
  have hbR : BxF w1 w.heap.size (.slice none 0 0) (.slice none 0 0) := ((BxF.new w _ _ 34).kept (below_alloc _ _)).kept hb1
  have hbM : BxF w1 (w.heap.size + 1) (.slice none 0 0) (.slice none 0 0) := by
    have h := (BxF.new (w.alloc (.cells #[.slice none 0 0, .slice none 0 0] 34)) (.slice none 0 0) (.slice none 0 0) 34).kept hb1
    simpa using h
  have hs1 : w.heap.size + 2 ≤ w1.heap.size := by have := hb1.size; simp at this; omega
  have hgg : w.heap.size + 2 ≤ g := by simp at hg1; omega
  clear hg1
  have HCL := Lib.hid (hrow.cells (g := g) rfl)
  clear hrow hb1 HS hsz
  generalize hps : spl 44 l = ps at *
  obtain ⟨B, hB⟩ : ∃ B, w1.heap.size = B := ⟨_, rfl⟩
  go_loopw [18] (fun i wr => ∃ j : Nat, i = .int .i64 (j : Nat) ∧ j ≤ ps.length ∧ mpT (ps.take j) = true ∧ KpA B (w.heap.size + 1) w1 wr ∧ ∃ u1 u2, BxF wr (w.heap.size + 1) u1 u2 ∧ LwAt wr B u1 u2 (mpN (ps.take j)) (mpD (ps.take j))) (fun i _ => ps.length - (RowKit.intOf i).toNat)
  case atStart => exact ⟨0, rfl, Nat.zero_le _, rfl, ⟨rfl, rfl, rfl, Nat.le_refl _, fun _ _ _ => rfl⟩, _, _, hbM, World.ownsRow_nil _ _ _ _, World.ownsRow_nil _ _ _ _, fun g e => by simp [Value.ownBlock] at e⟩
  case round =>
    obtain ⟨j, rfl, hj, hT, hK, u1, u2, hbx, hlw⟩ := hrel
    have HK := Lib.hid hK
    have HX := Lib.hid hbx
    have HL := Lib.hid hlw
    have HR := Lib.hid (hbR.of hK.size (hK.block _ (by omega) (by omega)))
    have hwr := hK.size
    by_cases hlt : j < ps.length
    · have hlt2 : (j : Int) < (ps.length : Int) := by omega
      have hj0 : (0 : Int) ≤ (j : Int) := by omega
      obtain ⟨p, hp⟩ : ∃ p, ps[j]? = some p := ⟨_, List.getElem?_eq_getElem hlt⟩
      have hpl : p.length ≤ 200 := by have := HPM.out p (List.mem_of_getElem? hp); omega
      have hcell : wr.cell? ⟨g, j, none⟩ = some (.string (byt p)) := by
        have h := HCL.out j _ (txV_at hp)
        rw [World.cell?_of_block (w := w1) (w' := wr) (a := ⟨g, j, none⟩) (hK.block g (by omega) (by omega))]
        rwa [addr_j] at h
      have HS2 := Lib.hid (fun W => l1Split_any p 47 (by omega) W)
      have HTN := Lib.hid (mpT_next hp)
      have HNN := Lib.hid (mpN_next hp)
      have HDN := Lib.hid (mpD_next hp)
      have HTX := Lib.hid (fun h => mpT_not hp h)
      have HPN := Lib.hid (List.length_pos_iff.2 (spl_ne 47 p))
      have hPM : ∀ q ∈ spl 47 p, q.length ≤ 200 := fun q hq => Nat.le_trans (spl_mem 47 p q hq) hpl
      have hnl := mpN_len (ps.take j)
      have hdl := mpD_len (ps.take j)
      rw [List.length_take] at hnl hdl
      have hpsl : ps.length ≤ 201 := by have := HPL.out; omega
      clear hK hbx hlw hp
      go_wp2_with fail
      refine (HS2.out _).mono ?_
      rintro e w3 ⟨v2, rfl, hrow2, hb3⟩
      obtain ⟨g2, cap2, rfl, hg3, hg2⟩ := World.ownsRow.form hrow2 HPN.out
      have hz3 := hb3.size
      have HK3 : Hid (KpA B (w.heap.size + 1) wr w3) := Lib.hid (KpA.of_below hb3 (by omega))
      have HBX := Lib.hid (HX.out.kept hb3)
      have HLW := Lib.hid (HL.out.kept hb3)
      have HR3 := Lib.hid (HR.out.kept hb3)
      by_cases h2 : (spl 47 p).length = 2
      · obtain ⟨a, b, hab⟩ := two_of h2
        have hc0 : w3.cell? ⟨g2, 0, none⟩ = some (.string (byt a)) := by
          have h := hrow2.cells (g := g2) rfl 0 (.string (byt a)) (by rw [hab]; rfl)
          rwa [addr_j] at h
        have hc1 : w3.cell? ⟨g2, 1, none⟩ = some (.string (byt b)) := by
          have h := hrow2.cells (g := g2) rfl 1 (.string (byt b)) (by rw [hab]; rfl)
          rwa [addr_j] at h
        have hla : a.length ≤ 200 := hPM a (by rw [hab]; simp)
        have hlb : b.length ≤ 200 := hPM b (by rw [hab]; simp)
        have HR0 := Lib.hid (fun W => l1Read_any a (by omega) W)
        have HR1 := Lib.hid (fun W => l1Read_any b (by omega) W)
        have HNX : Hid (mpN (ps.take (j + 1)) = mpN (ps.take j) ++ [rdL a]) := Lib.hid (by rw [HNN.out, hab]; rfl)
        have HDX : Hid (mpD (ps.take (j + 1)) = mpD (ps.take j) ++ [rdL b]) := Lib.hid (by rw [HDN.out, hab]; rfl)
        have HTY : Hid (mpT (ps.take (j + 1)) = true) := Lib.hid (by rw [HTN.out, hT, hab]; rfl)
        have hgn0 : u1.ownBlock ≠ some g2 := fun e => by have := (World.ownsRow.lt HL.out.h1 g2 e).2; omega
        have hgn1 : u2.ownBlock ≠ some g2 := fun e => by have := (World.ownsRow.lt HL.out.h2 g2 e).2; omega
        have hgM : g2 ≠ w.heap.size + 1 := by omega
        have hMB : w.heap.size + 1 < B := by omega
        have hBw : B ≤ w3.heap.size := by omega
        generalize (spl 47 p).length = n2 at *
        subst h2
        clear hrow2 HNN HDN HTN hb3 hPM hT hab
        generalize mpN (ps.take j) = xs at *
        generalize mpD (ps.take j) = ys at *
        generalize rdL a = v0 at *
        generalize rdL b = v1 at *
        have HML0 : Hid (xs.length + 1 ≤ maxLen) := Lib.hid (by unfold maxLen; omega)
        have HML1 : Hid (ys.length + 1 ≤ maxLen) := Lib.hid (by unfold maxLen; omega)
        have HML20 : Hid (xs.length ≤ 1048577) := Lib.hid (by omega)
        have HML21 : Hid (ys.length ≤ 1048577) := Lib.hid (by omega)
        clear hnl hdl
        go_wp2_with fail
        refine Code.wp_mono (Q := fun e a' w' => e = .normal ∧ (∃ z27 z28 z29 z30 z31 z32 z33 z34 z35 z36 z37 z38 z39 z40 z41 z42 z43 z44 z45 z46, a' = { tmps := #[.string (byt l), undef, .pointer (some ⟨w.heap.size, 0, none⟩), u3, .pointer (some ⟨w.heap.size + 1, 0, none⟩), undef, .string (byt p), .slice (some ⟨g2, 0, none⟩) 2 cap2, .string (byt l), .bool false, undef, .string (byt l), .int .i64 (l.length : Nat), .bool false, undef, .string (byt l), .slice (some ⟨g, 0, none⟩) ps.length cap, .int .i64 (ps.length : Nat), .int .i64 (j : Nat), .bool true, .pointer (some ⟨g, j, none⟩), .string (byt p), .string (byt p), .slice (some ⟨g2, 0, none⟩) 2 cap2, .slice (some ⟨g2, 0, none⟩) 2 cap2, .int .i64 2, .bool false, z27, z28, z29, z30, z31, z32, z33, z34, z35, z36, z37, z38, z39, z40, z41, z42, z43, z44, z45, z46, undef, undef, undef, undef, undef], defers := [] }) ∧ ∃ p5 d5, (BxF w' (w.heap.size + 1) (.slice p5 (xs.length + 1) d5) u2 ∧ LwAt w' B (.slice p5 (xs.length + 1) d5) u2 (xs ++ [v0]) ys) ∧ KpA B (w.heap.size + 1) w3 w' ∧ w'.heap[g2]? = w3.heap[g2]?) ?post12 ?reg12
        case reg12 =>
          obtain ⟨⟨k0, k1, k2⟩, k3, k4⟩ := HBX.out
          have y7 := HBX.out.kept (below_alloc w3 (.cells #[.int .i64 v0] 3))
          obtain ⟨⟨m0, m1, m2⟩, m3, m4⟩ := y7
          refine wp_region_held_drew (S := fun _ => True) (by kernel_rfl) trivial (fun hHeld => ?_)
          refine wpAnyH_take (i := 0) (oi := { dst := some 28, op := Op.fieldAddr 34 (Operand.tmp 4) 0, type := 0, pos := "l7_machine.go:297", after := #[], guard := none }) (v := ?_) rfl (by kernel_rfl) (by kernel_rfl) (by kernel_rfl) (fun _ _ _ h => nomatch h.1) (Or.inl ⟨by rfl, ?_⟩) (by assumption) ?_
          rotate_left
          · (intro wS hSw; go_simp; (try with_reducible rfl))
          (try simp only [Act.put, List.setIfInBounds_toArray, List.set_cons_zero, List.set_cons_succ])
          refine wpAnyH_take (i := 2) (oi := { dst := some 30, op := Op.move (Operand.tmp 7), type := 91, pos := "l7_machine.go:297", after := #[], guard := none }) (v := ?_) rfl (by kernel_rfl) (by kernel_rfl) (by kernel_rfl) (fun _ _ _ h => nomatch h.1) (Or.inl ⟨by rfl, ?_⟩) (by assumption) ?_
          rotate_left
          · (intro wS hSw; go_simp; (try with_reducible rfl))
          (try simp only [Act.put, List.setIfInBounds_toArray, List.set_cons_zero, List.set_cons_succ])
          refine wpAnyH_take (i := 3) (oi := { dst := some 31, op := Op.indexAddr 91 (Operand.tmp 30) (Operand.const (Value.int IntKind.i64 0)), type := 0, pos := "l7_machine.go:297", after := #[{ on := 2, ground := Ground.data }], guard := none }) (v := ?_) rfl (by kernel_rfl) (by kernel_rfl) (by kernel_rfl) (fun _ _ _ h => nomatch h.1) (Or.inl ⟨by rfl, ?_⟩) (by assumption) ?_
          rotate_left
          · (intro wS hSw; go_simp; (try with_reducible rfl))
          (try simp only [Act.put, List.setIfInBounds_toArray, List.set_cons_zero, List.set_cons_succ])
          refine wpAnyH_ready (rs := [1, 4]) (by kernel_rfl) (by simp) ?_
          refine AllReadyH.cons (o := { dst := some 29, op := Op.load 32 (Operand.tmp 28), type := 32, pos := "l7_machine.go:297", after := #[{ on := 0, ground := Ground.data }], guard := none }) rfl (fun K hK => ?_) (AllReadyH.cons (o := { dst := some 32, op := Op.load 9 (Operand.tmp 31), type := 9, pos := "l7_machine.go:297", after := #[{ on := 3, ground := Ground.data }], guard := none }) rfl (fun K hK => ?_) AllReadyH.nil)
          · go_simp
            refine hK.out _ _ trivial (fun hHeld2 => ?_)
            clear hK K
            (try simp only [Act.put, List.setIfInBounds_toArray, List.set_cons_zero, List.set_cons_succ])
            refine wpAnyH_ready (rs := [4]) (by kernel_rfl) (by simp) ?_
            refine AllReadyH.cons (o := { dst := some 32, op := Op.load 9 (Operand.tmp 31), type := 9, pos := "l7_machine.go:297", after := #[{ on := 3, ground := Ground.data }], guard := none }) rfl (fun K hK => ?_) AllReadyH.nil
            go_simp
            refine hK.out _ _ trivial (fun hHeld2 => ?_)
            clear hK K
            (try simp only [Act.put, List.setIfInBounds_toArray, List.set_cons_zero, List.set_cons_succ])
            refine wpAnyH_ready (rs := [5]) (by kernel_rfl) (by simp) ?_
            refine AllReadyH.cons (o := { dst := some 33, op := Op.call { callee := Callee.value (Operand.func 81), args := #[Operand.tmp 32], argTypes := #[9] }, type := 3, pos := "l7_machine.go:297", after := #[{ on := 4, ground := Ground.data }], guard := none }) rfl (fun K hK => ?_) AllReadyH.nil
            go_simp
            (go_at_call 81; refine (HR0.out _).mono ?_; rintro e w7 ⟨rfl, rfl⟩)
            refine hK.out _ _ trivial (fun hHeld2 => ?_)
            clear hK K
            (try simp only [Act.put, List.setIfInBounds_toArray, List.set_cons_zero, List.set_cons_succ])
            refine wpAnyH_ready (rs := [6]) (by kernel_rfl) (by simp) ?_
            refine AllReadyH.cons (o := { dst := some 34, op := Op.buildSlice 32 1 #[(0, Operand.tmp 33)], type := 32, pos := "l7_machine.go:297", after := #[{ on := 5, ground := Ground.data }], guard := none }) rfl (fun K hK => ?_) AllReadyH.nil
            go_simp
            refine hK.out _ _ trivial (fun hHeld2 => ?_)
            clear hK K
            (try simp only [Act.put, List.setIfInBounds_toArray, List.set_cons_zero, List.set_cons_succ])
            refine wpAnyH_ready (rs := [7]) (by kernel_rfl) (by simp) ?_
            refine AllReadyH.cons (o := { dst := some 35, op := Op.call { callee := Callee.builtin Builtin.append, args := #[Operand.tmp 29, Operand.tmp 34], argTypes := #[32, 32] }, type := 32, pos := "l7_machine.go:297", after := #[{ on := 1, ground := Ground.data }, { on := 6, ground := Ground.data }, { on := 5, ground := Ground.chain }], guard := none }) rfl (fun K hK => ?_) AllReadyH.nil
            refine step_append_rd rfl (.tmp 29) (.tmp 34) 32 rfl B 3 i0 (.int .i64 0) 1 8 Tryd.underlying32 hi hi0 hi1 hi2 rfl (by decide) u1 _ _ (by simp [Act.eval]) (ownsRow_kept HLW.out.h1 ((Below.refl _ w3).drew.trans (below_alloc w3.drew (.cells #[.int .i64 v0] 3)))) ⟨w3.drew.heap.size, 0, none⟩ 1 1 [.int .i64 v0] (by simp [Act.eval]) rfl (fun j u hu => new_cell _ _ _ hu) (by simp [Value.oneCell']) HML0.out (by have := HML20.out; omega) (by simp; omega) ?_
            intro v5 w5 hown5 hgrow5 hat5
            obtain ⟨p5, d5, rfl⟩ := own_formL hown5
            obtain ⟨LW5, BX5, KP5⟩ := leaf0 HLW.out HBX.out hMB hBw (Below.refl _ w3).drew hown5 hgrow5 hat5
            have HG5 : w5.heap[g2]? = w3.heap[g2]? := grow_far HLW.out.h1 hg2 hgn0 hgrow5
            clear k0 k1 k2 k3 k4 m0 m1 m2 m3 m4
            obtain ⟨⟨k0, k1, k2⟩, k3, k4⟩ := BX5
            refine hK.out _ _ trivial (fun hHeld2 => ?_)
            clear hK K
            (try simp only [Act.put, List.setIfInBounds_toArray, List.set_cons_zero, List.set_cons_succ])
            refine wpAnyH_take (i := 8) (oi := { dst := some 36, op := Op.fieldAddr 34 (Operand.tmp 4) 0, type := 0, pos := "l7_machine.go:297", after := #[{ on := 0, ground := Ground.phase }, { on := 1, ground := Ground.phase }, { on := 2, ground := Ground.phase }, { on := 3, ground := Ground.phase }, { on := 4, ground := Ground.phase }, { on := 5, ground := Ground.phase }, { on := 6, ground := Ground.phase }, { on := 7, ground := Ground.phase }], guard := none }) (v := ?_) rfl (by kernel_rfl) (by kernel_rfl) (by kernel_rfl) (fun _ _ _ h => nomatch h.1) (Or.inl ⟨by rfl, ?_⟩) (by assumption) ?_
            rotate_left
            · (intro wS hSw; go_simp; (try with_reducible rfl))
            (try simp only [Act.put, List.setIfInBounds_toArray, List.set_cons_zero, List.set_cons_succ])
            refine wpAnyH_ready (rs := [9]) (by kernel_rfl) (by simp) ?_
            refine AllReadyH.cons (o := { dst := none, op := Op.store 32 (Operand.tmp 36) (Operand.tmp 35), type := 0, pos := "l7_machine.go:297", after := #[{ on := 8, ground := Ground.data }, { on := 7, ground := Ground.data }, { on := 7, ground := Ground.chain }, { on := 0, ground := Ground.phase }, { on := 1, ground := Ground.phase }, { on := 2, ground := Ground.phase }, { on := 3, ground := Ground.phase }, { on := 4, ground := Ground.phase }, { on := 5, ground := Ground.phase }, { on := 6, ground := Ground.phase }, { on := 7, ground := Ground.phase }], guard := none }) rfl (fun K hK => ?_) AllReadyH.nil
            go_simp
            refine hK.out _ _ trivial (fun hHeld2 => ?_)
            clear hK K
            (try simp only [Act.put, List.setIfInBounds_toArray, List.set_cons_zero, List.set_cons_succ])
            refine wpAnyH_done (by kernel_rfl) ?_ _
            exact ⟨rfl, ⟨_, _, _, _, _, _, _, _, _, _, _, _, _, _, _, _, _, _, _, _, rfl⟩, _, _, fin0 ⟨⟨k0, k1, k2⟩, k3, k4⟩ LW5 hMB, KP5.set _ _, (Below.heap_setCell _ _ _ _ hgM).trans HG5⟩
          · go_simp
            refine hK.out _ _ trivial (fun hHeld2 => ?_)
            clear hK K
            (try simp only [Act.put, List.setIfInBounds_toArray, List.set_cons_zero, List.set_cons_succ])
            refine wpAnyH_ready (rs := [1, 5]) (by kernel_rfl) (by simp) ?_
            refine AllReadyH.cons (o := { dst := some 29, op := Op.load 32 (Operand.tmp 28), type := 32, pos := "l7_machine.go:297", after := #[{ on := 0, ground := Ground.data }], guard := none }) rfl (fun K hK => ?_) (AllReadyH.cons (o := { dst := some 33, op := Op.call { callee := Callee.value (Operand.func 81), args := #[Operand.tmp 32], argTypes := #[9] }, type := 3, pos := "l7_machine.go:297", after := #[{ on := 4, ground := Ground.data }], guard := none }) rfl (fun K hK => ?_) AllReadyH.nil)
            · go_simp
              refine hK.out _ _ trivial (fun hHeld2 => ?_)
              clear hK K
              (try simp only [Act.put, List.setIfInBounds_toArray, List.set_cons_zero, List.set_cons_succ])
              refine wpAnyH_ready (rs := [5]) (by kernel_rfl) (by simp) ?_
              refine AllReadyH.cons (o := { dst := some 33, op := Op.call { callee := Callee.value (Operand.func 81), args := #[Operand.tmp 32], argTypes := #[9] }, type := 3, pos := "l7_machine.go:297", after := #[{ on := 4, ground := Ground.data }], guard := none }) rfl (fun K hK => ?_) AllReadyH.nil
              go_simp
              (go_at_call 81; refine (HR0.out _).mono ?_; rintro e w7 ⟨rfl, rfl⟩)
              refine hK.out _ _ trivial (fun hHeld2 => ?_)
              clear hK K
              (try simp only [Act.put, List.setIfInBounds_toArray, List.set_cons_zero, List.set_cons_succ])
              refine wpAnyH_ready (rs := [6]) (by kernel_rfl) (by simp) ?_
              refine AllReadyH.cons (o := { dst := some 34, op := Op.buildSlice 32 1 #[(0, Operand.tmp 33)], type := 32, pos := "l7_machine.go:297", after := #[{ on := 5, ground := Ground.data }], guard := none }) rfl (fun K hK => ?_) AllReadyH.nil
              go_simp
              refine hK.out _ _ trivial (fun hHeld2 => ?_)
              clear hK K
              (try simp only [Act.put, List.setIfInBounds_toArray, List.set_cons_zero, List.set_cons_succ])
              refine wpAnyH_ready (rs := [7]) (by kernel_rfl) (by simp) ?_
              refine AllReadyH.cons (o := { dst := some 35, op := Op.call { callee := Callee.builtin Builtin.append, args := #[Operand.tmp 29, Operand.tmp 34], argTypes := #[32, 32] }, type := 32, pos := "l7_machine.go:297", after := #[{ on := 1, ground := Ground.data }, { on := 6, ground := Ground.data }, { on := 5, ground := Ground.chain }], guard := none }) rfl (fun K hK => ?_) AllReadyH.nil
              refine step_append_rd rfl (.tmp 29) (.tmp 34) 32 rfl B 3 i0 (.int .i64 0) 1 8 Tryd.underlying32 hi hi0 hi1 hi2 rfl (by decide) u1 _ _ (by simp [Act.eval]) (ownsRow_kept HLW.out.h1 ((Below.refl _ w3).drew.trans (below_alloc w3.drew (.cells #[.int .i64 v0] 3)))) ⟨w3.drew.heap.size, 0, none⟩ 1 1 [.int .i64 v0] (by simp [Act.eval]) rfl (fun j u hu => new_cell _ _ _ hu) (by simp [Value.oneCell']) HML0.out (by have := HML20.out; omega) (by simp; omega) ?_
              intro v5 w5 hown5 hgrow5 hat5
              obtain ⟨p5, d5, rfl⟩ := own_formL hown5
              obtain ⟨LW5, BX5, KP5⟩ := leaf0 HLW.out HBX.out hMB hBw (Below.refl _ w3).drew hown5 hgrow5 hat5
              have HG5 : w5.heap[g2]? = w3.heap[g2]? := grow_far HLW.out.h1 hg2 hgn0 hgrow5
              clear k0 k1 k2 k3 k4 m0 m1 m2 m3 m4
              obtain ⟨⟨k0, k1, k2⟩, k3, k4⟩ := BX5
              refine hK.out _ _ trivial (fun hHeld2 => ?_)
              clear hK K
              (try simp only [Act.put, List.setIfInBounds_toArray, List.set_cons_zero, List.set_cons_succ])
              refine wpAnyH_take (i := 8) (oi := { dst := some 36, op := Op.fieldAddr 34 (Operand.tmp 4) 0, type := 0, pos := "l7_machine.go:297", after := #[{ on := 0, ground := Ground.phase }, { on := 1, ground := Ground.phase }, { on := 2, ground := Ground.phase }, { on := 3, ground := Ground.phase }, { on := 4, ground := Ground.phase }, { on := 5, ground := Ground.phase }, { on := 6, ground := Ground.phase }, { on := 7, ground := Ground.phase }], guard := none }) (v := ?_) rfl (by kernel_rfl) (by kernel_rfl) (by kernel_rfl) (fun _ _ _ h => nomatch h.1) (Or.inl ⟨by rfl, ?_⟩) (by assumption) ?_
              rotate_left
              · (intro wS hSw; go_simp; (try with_reducible rfl))
              (try simp only [Act.put, List.setIfInBounds_toArray, List.set_cons_zero, List.set_cons_succ])
              refine wpAnyH_ready (rs := [9]) (by kernel_rfl) (by simp) ?_
              refine AllReadyH.cons (o := { dst := none, op := Op.store 32 (Operand.tmp 36) (Operand.tmp 35), type := 0, pos := "l7_machine.go:297", after := #[{ on := 8, ground := Ground.data }, { on := 7, ground := Ground.data }, { on := 7, ground := Ground.chain }, { on := 0, ground := Ground.phase }, { on := 1, ground := Ground.phase }, { on := 2, ground := Ground.phase }, { on := 3, ground := Ground.phase }, { on := 4, ground := Ground.phase }, { on := 5, ground := Ground.phase }, { on := 6, ground := Ground.phase }, { on := 7, ground := Ground.phase }], guard := none }) rfl (fun K hK => ?_) AllReadyH.nil
              go_simp
              refine hK.out _ _ trivial (fun hHeld2 => ?_)
              clear hK K
              (try simp only [Act.put, List.setIfInBounds_toArray, List.set_cons_zero, List.set_cons_succ])
              refine wpAnyH_done (by kernel_rfl) ?_ _
              exact ⟨rfl, ⟨_, _, _, _, _, _, _, _, _, _, _, _, _, _, _, _, _, _, _, _, rfl⟩, _, _, fin0 ⟨⟨k0, k1, k2⟩, k3, k4⟩ LW5 hMB, KP5.set _ _, (Below.heap_setCell _ _ _ _ hgM).trans HG5⟩
            · go_simp
              (go_at_call 81; refine (HR0.out _).mono ?_; rintro e w7 ⟨rfl, rfl⟩)
              refine hK.out _ _ trivial (fun hHeld2 => ?_)
              clear hK K
              (try simp only [Act.put, List.setIfInBounds_toArray, List.set_cons_zero, List.set_cons_succ])
              refine wpAnyH_ready (rs := [1, 6]) (by kernel_rfl) (by simp) ?_
              refine AllReadyH.cons (o := { dst := some 29, op := Op.load 32 (Operand.tmp 28), type := 32, pos := "l7_machine.go:297", after := #[{ on := 0, ground := Ground.data }], guard := none }) rfl (fun K hK => ?_) (AllReadyH.cons (o := { dst := some 34, op := Op.buildSlice 32 1 #[(0, Operand.tmp 33)], type := 32, pos := "l7_machine.go:297", after := #[{ on := 5, ground := Ground.data }], guard := none }) rfl (fun K hK => ?_) AllReadyH.nil)
              · go_simp
                refine hK.out _ _ trivial (fun hHeld2 => ?_)
                clear hK K
                (try simp only [Act.put, List.setIfInBounds_toArray, List.set_cons_zero, List.set_cons_succ])
                refine wpAnyH_ready (rs := [6]) (by kernel_rfl) (by simp) ?_
                refine AllReadyH.cons (o := { dst := some 34, op := Op.buildSlice 32 1 #[(0, Operand.tmp 33)], type := 32, pos := "l7_machine.go:297", after := #[{ on := 5, ground := Ground.data }], guard := none }) rfl (fun K hK => ?_) AllReadyH.nil
                go_simp
                refine hK.out _ _ trivial (fun hHeld2 => ?_)
                clear hK K
                (try simp only [Act.put, List.setIfInBounds_toArray, List.set_cons_zero, List.set_cons_succ])
                refine wpAnyH_ready (rs := [7]) (by kernel_rfl) (by simp) ?_
                refine AllReadyH.cons (o := { dst := some 35, op := Op.call { callee := Callee.builtin Builtin.append, args := #[Operand.tmp 29, Operand.tmp 34], argTypes := #[32, 32] }, type := 32, pos := "l7_machine.go:297", after := #[{ on := 1, ground := Ground.data }, { on := 6, ground := Ground.data }, { on := 5, ground := Ground.chain }], guard := none }) rfl (fun K hK => ?_) AllReadyH.nil
                refine step_append_rd rfl (.tmp 29) (.tmp 34) 32 rfl B 3 i0 (.int .i64 0) 1 8 Tryd.underlying32 hi hi0 hi1 hi2 rfl (by decide) u1 _ _ (by simp [Act.eval]) (ownsRow_kept HLW.out.h1 ((Below.refl _ w3).drew.trans (below_alloc w3.drew (.cells #[.int .i64 v0] 3)))) ⟨w3.drew.heap.size, 0, none⟩ 1 1 [.int .i64 v0] (by simp [Act.eval]) rfl (fun j u hu => new_cell _ _ _ hu) (by simp [Value.oneCell']) HML0.out (by have := HML20.out; omega) (by simp; omega) ?_
                intro v5 w5 hown5 hgrow5 hat5
                obtain ⟨p5, d5, rfl⟩ := own_formL hown5
                obtain ⟨LW5, BX5, KP5⟩ := leaf0 HLW.out HBX.out hMB hBw (Below.refl _ w3).drew hown5 hgrow5 hat5
                have HG5 : w5.heap[g2]? = w3.heap[g2]? := grow_far HLW.out.h1 hg2 hgn0 hgrow5
                clear k0 k1 k2 k3 k4 m0 m1 m2 m3 m4
                obtain ⟨⟨k0, k1, k2⟩, k3, k4⟩ := BX5
                refine hK.out _ _ trivial (fun hHeld2 => ?_)
                clear hK K
                (try simp only [Act.put, List.setIfInBounds_toArray, List.set_cons_zero, List.set_cons_succ])
                refine wpAnyH_take (i := 8) (oi := { dst := some 36, op := Op.fieldAddr 34 (Operand.tmp 4) 0, type := 0, pos := "l7_machine.go:297", after := #[{ on := 0, ground := Ground.phase }, { on := 1, ground := Ground.phase }, { on := 2, ground := Ground.phase }, { on := 3, ground := Ground.phase }, { on := 4, ground := Ground.phase }, { on := 5, ground := Ground.phase }, { on := 6, ground := Ground.phase }, { on := 7, ground := Ground.phase }], guard := none }) (v := ?_) rfl (by kernel_rfl) (by kernel_rfl) (by kernel_rfl) (fun _ _ _ h => nomatch h.1) (Or.inl ⟨by rfl, ?_⟩) (by assumption) ?_
                rotate_left
                · (intro wS hSw; go_simp; (try with_reducible rfl))
                (try simp only [Act.put, List.setIfInBounds_toArray, List.set_cons_zero, List.set_cons_succ])
                refine wpAnyH_ready (rs := [9]) (by kernel_rfl) (by simp) ?_
                refine AllReadyH.cons (o := { dst := none, op := Op.store 32 (Operand.tmp 36) (Operand.tmp 35), type := 0, pos := "l7_machine.go:297", after := #[{ on := 8, ground := Ground.data }, { on := 7, ground := Ground.data }, { on := 7, ground := Ground.chain }, { on := 0, ground := Ground.phase }, { on := 1, ground := Ground.phase }, { on := 2, ground := Ground.phase }, { on := 3, ground := Ground.phase }, { on := 4, ground := Ground.phase }, { on := 5, ground := Ground.phase }, { on := 6, ground := Ground.phase }, { on := 7, ground := Ground.phase }], guard := none }) rfl (fun K hK => ?_) AllReadyH.nil
                go_simp
                refine hK.out _ _ trivial (fun hHeld2 => ?_)
                clear hK K
                (try simp only [Act.put, List.setIfInBounds_toArray, List.set_cons_zero, List.set_cons_succ])
                refine wpAnyH_done (by kernel_rfl) ?_ _
                exact ⟨rfl, ⟨_, _, _, _, _, _, _, _, _, _, _, _, _, _, _, _, _, _, _, _, rfl⟩, _, _, fin0 ⟨⟨k0, k1, k2⟩, k3, k4⟩ LW5 hMB, KP5.set _ _, (Below.heap_setCell _ _ _ _ hgM).trans HG5⟩
              · go_simp
                refine hK.out _ _ trivial (fun hHeld2 => ?_)
                clear hK K
                (try simp only [Act.put, List.setIfInBounds_toArray, List.set_cons_zero, List.set_cons_succ])
                refine wpAnyH_ready (rs := [1]) (by kernel_rfl) (by simp) ?_
                refine AllReadyH.cons (o := { dst := some 29, op := Op.load 32 (Operand.tmp 28), type := 32, pos := "l7_machine.go:297", after := #[{ on := 0, ground := Ground.data }], guard := none }) rfl (fun K hK => ?_) AllReadyH.nil
                go_simp
                refine hK.out _ _ trivial (fun hHeld2 => ?_)
                clear hK K
                (try simp only [Act.put, List.setIfInBounds_toArray, List.set_cons_zero, List.set_cons_succ])
                refine wpAnyH_ready (rs := [7]) (by kernel_rfl) (by simp) ?_
                refine AllReadyH.cons (o := { dst := some 35, op := Op.call { callee := Callee.builtin Builtin.append, args := #[Operand.tmp 29, Operand.tmp 34], argTypes := #[32, 32] }, type := 32, pos := "l7_machine.go:297", after := #[{ on := 1, ground := Ground.data }, { on := 6, ground := Ground.data }, { on := 5, ground := Ground.chain }], guard := none }) rfl (fun K hK => ?_) AllReadyH.nil
                refine step_append_rd rfl (.tmp 29) (.tmp 34) 32 rfl B 3 i0 (.int .i64 0) 1 8 Tryd.underlying32 hi hi0 hi1 hi2 rfl (by decide) u1 _ _ (by simp [Act.eval]) (ownsRow_kept HLW.out.h1 ((Below.refl _ w3).drew.trans (below_alloc w3.drew (.cells #[.int .i64 v0] 3)))) ⟨w3.drew.heap.size, 0, none⟩ 1 1 [.int .i64 v0] (by simp [Act.eval]) rfl (fun j u hu => new_cell _ _ _ hu) (by simp [Value.oneCell']) HML0.out (by have := HML20.out; omega) (by simp; omega) ?_
                intro v5 w5 hown5 hgrow5 hat5
                obtain ⟨p5, d5, rfl⟩ := own_formL hown5
                obtain ⟨LW5, BX5, KP5⟩ := leaf0 HLW.out HBX.out hMB hBw (Below.refl _ w3).drew hown5 hgrow5 hat5
                have HG5 : w5.heap[g2]? = w3.heap[g2]? := grow_far HLW.out.h1 hg2 hgn0 hgrow5
                clear k0 k1 k2 k3 k4 m0 m1 m2 m3 m4
                obtain ⟨⟨k0, k1, k2⟩, k3, k4⟩ := BX5
                refine hK.out _ _ trivial (fun hHeld2 => ?_)
                clear hK K
                (try simp only [Act.put, List.setIfInBounds_toArray, List.set_cons_zero, List.set_cons_succ])
                refine wpAnyH_take (i := 8) (oi := { dst := some 36, op := Op.fieldAddr 34 (Operand.tmp 4) 0, type := 0, pos := "l7_machine.go:297", after := #[{ on := 0, ground := Ground.phase }, { on := 1, ground := Ground.phase }, { on := 2, ground := Ground.phase }, { on := 3, ground := Ground.phase }, { on := 4, ground := Ground.phase }, { on := 5, ground := Ground.phase }, { on := 6, ground := Ground.phase }, { on := 7, ground := Ground.phase }], guard := none }) (v := ?_) rfl (by kernel_rfl) (by kernel_rfl) (by kernel_rfl) (fun _ _ _ h => nomatch h.1) (Or.inl ⟨by rfl, ?_⟩) (by assumption) ?_
                rotate_left
                · (intro wS hSw; go_simp; (try with_reducible rfl))
                (try simp only [Act.put, List.setIfInBounds_toArray, List.set_cons_zero, List.set_cons_succ])
                refine wpAnyH_ready (rs := [9]) (by kernel_rfl) (by simp) ?_
                refine AllReadyH.cons (o := { dst := none, op := Op.store 32 (Operand.tmp 36) (Operand.tmp 35), type := 0, pos := "l7_machine.go:297", after := #[{ on := 8, ground := Ground.data }, { on := 7, ground := Ground.data }, { on := 7, ground := Ground.chain }, { on := 0, ground := Ground.phase }, { on := 1, ground := Ground.phase }, { on := 2, ground := Ground.phase }, { on := 3, ground := Ground.phase }, { on := 4, ground := Ground.phase }, { on := 5, ground := Ground.phase }, { on := 6, ground := Ground.phase }, { on := 7, ground := Ground.phase }], guard := none }) rfl (fun K hK => ?_) AllReadyH.nil
                go_simp
                refine hK.out _ _ trivial (fun hHeld2 => ?_)
                clear hK K
                (try simp only [Act.put, List.setIfInBounds_toArray, List.set_cons_zero, List.set_cons_succ])
                refine wpAnyH_done (by kernel_rfl) ?_ _
                exact ⟨rfl, ⟨_, _, _, _, _, _, _, _, _, _, _, _, _, _, _, _, _, _, _, _, rfl⟩, _, _, fin0 ⟨⟨k0, k1, k2⟩, k3, k4⟩ LW5 hMB, KP5.set _ _, (Below.heap_setCell _ _ _ _ hgM).trans HG5⟩
        rintro e a' w4 ⟨rfl, ⟨z27, z28, z29, z30, z31, z32, z33, z34, z35, z36, z37, z38, z39, z40, z41, z42, z43, z44, z45, z46, rfl⟩, p5, d5, ⟨hbx4, hlw4⟩, hk4, hg4⟩
        have hc14 : w4.cell? ⟨g2, 1, none⟩ = some (.string (byt b)) := (World.cell?_of_block (w := w3) (w' := w4) (a := ⟨g2, 1, none⟩) hg4).trans hc1
        have hz4 := hk4.size
        have HK4 := Lib.hid hk4
        clear HBX HLW hc0 hc1 hBw HR0 HML0 HML20 hgn0 hg4 hk4
        have HBX := Lib.hid hbx4
        have HLW := Lib.hid hlw4
        have hBw : B ≤ w4.heap.size := by omega
        clear hbx4 hlw4
        go_wp2_with fail
        refine Code.wp_mono (Q := fun e a' w' => e = .normal ∧ (∃ z27 z28 z29 z30 z31 z32 z33 z34 z35 z36 z37 z38 z39 z40 z41 z42 z43 z44 z45 z46, a' = { tmps := #[.string (byt l), undef, .pointer (some ⟨w.heap.size, 0, none⟩), u3, .pointer (some ⟨w.heap.size + 1, 0, none⟩), undef, .string (byt p), .slice (some ⟨g2, 0, none⟩) 2 cap2, .string (byt l), .bool false, undef, .string (byt l), .int .i64 (l.length : Nat), .bool false, undef, .string (byt l), .slice (some ⟨g, 0, none⟩) ps.length cap, .int .i64 (ps.length : Nat), .int .i64 (j : Nat), .bool true, .pointer (some ⟨g, j, none⟩), .string (byt p), .string (byt p), .slice (some ⟨g2, 0, none⟩) 2 cap2, .slice (some ⟨g2, 0, none⟩) 2 cap2, .int .i64 2, .bool false, z27, z28, z29, z30, z31, z32, z33, z34, z35, z36, z37, z38, z39, z40, z41, z42, z43, z44, z45, z46, undef, undef, undef, undef, undef], defers := [] }) ∧ ∃ p6 d6, (BxF w' (w.heap.size + 1) (.slice p5 (xs.length + 1) d5) (.slice p6 (ys.length + 1) d6) ∧ LwAt w' B (.slice p5 (xs.length + 1) d5) (.slice p6 (ys.length + 1) d6) (xs ++ [v0]) (ys ++ [v1])) ∧ KpA B (w.heap.size + 1) w4 w') ?post13 ?reg13
        case reg13 =>
          obtain ⟨⟨k0, k1, k2⟩, k3, k4⟩ := HBX.out
          have y7 := HBX.out.kept (below_alloc w4 (.cells #[.int .i64 v1] 3))
          obtain ⟨⟨m0, m1, m2⟩, m3, m4⟩ := y7
          refine wp_region_held_drew (S := fun _ => True) (by kernel_rfl) trivial (fun hHeld => ?_)
          refine wpAnyH_take (i := 0) (oi := { dst := some 37, op := Op.fieldAddr 34 (Operand.tmp 4) 1, type := 0, pos := "l7_machine.go:298", after := #[], guard := none }) (v := ?_) rfl (by kernel_rfl) (by kernel_rfl) (by kernel_rfl) (fun _ _ _ h => nomatch h.1) (Or.inl ⟨by rfl, ?_⟩) (by assumption) ?_
          rotate_left
          · (intro wS hSw; go_simp; (try with_reducible rfl))
          (try simp only [Act.put, List.setIfInBounds_toArray, List.set_cons_zero, List.set_cons_succ])
          refine wpAnyH_take (i := 2) (oi := { dst := some 39, op := Op.move (Operand.tmp 7), type := 91, pos := "l7_machine.go:298", after := #[], guard := none }) (v := ?_) rfl (by kernel_rfl) (by kernel_rfl) (by kernel_rfl) (fun _ _ _ h => nomatch h.1) (Or.inl ⟨by rfl, ?_⟩) (by assumption) ?_
          rotate_left
          · (intro wS hSw; go_simp; (try with_reducible rfl))
          (try simp only [Act.put, List.setIfInBounds_toArray, List.set_cons_zero, List.set_cons_succ])
          refine wpAnyH_take (i := 3) (oi := { dst := some 40, op := Op.indexAddr 91 (Operand.tmp 39) (Operand.const (Value.int IntKind.i64 1)), type := 0, pos := "l7_machine.go:298", after := #[{ on := 2, ground := Ground.data }], guard := none }) (v := ?_) rfl (by kernel_rfl) (by kernel_rfl) (by kernel_rfl) (fun _ _ _ h => nomatch h.1) (Or.inl ⟨by rfl, ?_⟩) (by assumption) ?_
          rotate_left
          · (intro wS hSw; go_simp; (try with_reducible rfl))
          (try simp only [Act.put, List.setIfInBounds_toArray, List.set_cons_zero, List.set_cons_succ])
          refine wpAnyH_ready (rs := [1, 4]) (by kernel_rfl) (by simp) ?_
          refine AllReadyH.cons (o := { dst := some 38, op := Op.load 32 (Operand.tmp 37), type := 32, pos := "l7_machine.go:298", after := #[{ on := 0, ground := Ground.data }], guard := none }) rfl (fun K hK => ?_) (AllReadyH.cons (o := { dst := some 41, op := Op.load 9 (Operand.tmp 40), type := 9, pos := "l7_machine.go:298", after := #[{ on := 3, ground := Ground.data }], guard := none }) rfl (fun K hK => ?_) AllReadyH.nil)
          · go_simp
            refine hK.out _ _ trivial (fun hHeld2 => ?_)
            clear hK K
            (try simp only [Act.put, List.setIfInBounds_toArray, List.set_cons_zero, List.set_cons_succ])
            refine wpAnyH_ready (rs := [4]) (by kernel_rfl) (by simp) ?_
            refine AllReadyH.cons (o := { dst := some 41, op := Op.load 9 (Operand.tmp 40), type := 9, pos := "l7_machine.go:298", after := #[{ on := 3, ground := Ground.data }], guard := none }) rfl (fun K hK => ?_) AllReadyH.nil
            go_simp
            refine hK.out _ _ trivial (fun hHeld2 => ?_)
            clear hK K
            (try simp only [Act.put, List.setIfInBounds_toArray, List.set_cons_zero, List.set_cons_succ])
            refine wpAnyH_ready (rs := [5]) (by kernel_rfl) (by simp) ?_
            refine AllReadyH.cons (o := { dst := some 42, op := Op.call { callee := Callee.value (Operand.func 81), args := #[Operand.tmp 41], argTypes := #[9] }, type := 3, pos := "l7_machine.go:298", after := #[{ on := 4, ground := Ground.data }], guard := none }) rfl (fun K hK => ?_) AllReadyH.nil
            go_simp
            (go_at_call 81; refine (HR1.out _).mono ?_; rintro e w7 ⟨rfl, rfl⟩)
            refine hK.out _ _ trivial (fun hHeld2 => ?_)
            clear hK K
            (try simp only [Act.put, List.setIfInBounds_toArray, List.set_cons_zero, List.set_cons_succ])
            refine wpAnyH_ready (rs := [6]) (by kernel_rfl) (by simp) ?_
            refine AllReadyH.cons (o := { dst := some 43, op := Op.buildSlice 32 1 #[(0, Operand.tmp 42)], type := 32, pos := "l7_machine.go:298", after := #[{ on := 5, ground := Ground.data }], guard := none }) rfl (fun K hK => ?_) AllReadyH.nil
            go_simp
            refine hK.out _ _ trivial (fun hHeld2 => ?_)
            clear hK K
            (try simp only [Act.put, List.setIfInBounds_toArray, List.set_cons_zero, List.set_cons_succ])
            refine wpAnyH_ready (rs := [7]) (by kernel_rfl) (by simp) ?_
            refine AllReadyH.cons (o := { dst := some 44, op := Op.call { callee := Callee.builtin Builtin.append, args := #[Operand.tmp 38, Operand.tmp 43], argTypes := #[32, 32] }, type := 32, pos := "l7_machine.go:298", after := #[{ on := 1, ground := Ground.data }, { on := 6, ground := Ground.data }, { on := 5, ground := Ground.chain }], guard := none }) rfl (fun K hK => ?_) AllReadyH.nil
            refine step_append_rd rfl (.tmp 38) (.tmp 43) 32 rfl B 3 i0 (.int .i64 0) 1 8 Tryd.underlying32 hi hi0 hi1 hi2 rfl (by decide) u2 _ _ (by simp [Act.eval]) (ownsRow_kept HLW.out.h2 ((Below.refl _ w4).drew.trans (below_alloc w4.drew (.cells #[.int .i64 v1] 3)))) ⟨w4.drew.heap.size, 0, none⟩ 1 1 [.int .i64 v1] (by simp [Act.eval]) rfl (fun j u hu => new_cell _ _ _ hu) (by simp [Value.oneCell']) HML1.out (by have := HML21.out; omega) (by simp; omega) ?_
            intro v5 w5 hown5 hgrow5 hat5
            obtain ⟨p5, d5, rfl⟩ := own_formL hown5
            obtain ⟨LW5, BX5, KP5⟩ := leaf1 HLW.out HBX.out hMB hBw (Below.refl _ w4).drew hown5 hgrow5 hat5
            clear k0 k1 k2 k3 k4 m0 m1 m2 m3 m4
            obtain ⟨⟨k0, k1, k2⟩, k3, k4⟩ := BX5
            refine hK.out _ _ trivial (fun hHeld2 => ?_)
            clear hK K
            (try simp only [Act.put, List.setIfInBounds_toArray, List.set_cons_zero, List.set_cons_succ])
            refine wpAnyH_take (i := 8) (oi := { dst := some 45, op := Op.fieldAddr 34 (Operand.tmp 4) 1, type := 0, pos := "l7_machine.go:298", after := #[{ on := 0, ground := Ground.phase }, { on := 1, ground := Ground.phase }, { on := 2, ground := Ground.phase }, { on := 3, ground := Ground.phase }, { on := 4, ground := Ground.phase }, { on := 5, ground := Ground.phase }, { on := 6, ground := Ground.phase }, { on := 7, ground := Ground.phase }], guard := none }) (v := ?_) rfl (by kernel_rfl) (by kernel_rfl) (by kernel_rfl) (fun _ _ _ h => nomatch h.1) (Or.inl ⟨by rfl, ?_⟩) (by assumption) ?_
            rotate_left
            · (intro wS hSw; go_simp; (try with_reducible rfl))
            (try simp only [Act.put, List.setIfInBounds_toArray, List.set_cons_zero, List.set_cons_succ])
            refine wpAnyH_ready (rs := [9]) (by kernel_rfl) (by simp) ?_
            refine AllReadyH.cons (o := { dst := none, op := Op.store 32 (Operand.tmp 45) (Operand.tmp 44), type := 0, pos := "l7_machine.go:298", after := #[{ on := 8, ground := Ground.data }, { on := 7, ground := Ground.data }, { on := 7, ground := Ground.chain }, { on := 0, ground := Ground.phase }, { on := 1, ground := Ground.phase }, { on := 2, ground := Ground.phase }, { on := 3, ground := Ground.phase }, { on := 4, ground := Ground.phase }, { on := 5, ground := Ground.phase }, { on := 6, ground := Ground.phase }, { on := 7, ground := Ground.phase }], guard := none }) rfl (fun K hK => ?_) AllReadyH.nil
            go_simp
            refine hK.out _ _ trivial (fun hHeld2 => ?_)
            clear hK K
            (try simp only [Act.put, List.setIfInBounds_toArray, List.set_cons_zero, List.set_cons_succ])
            refine wpAnyH_done (by kernel_rfl) ?_ _
            exact ⟨rfl, ⟨_, _, _, _, _, _, _, _, _, _, _, _, _, _, _, _, _, _, _, _, rfl⟩, _, _, fin1 ⟨⟨k0, k1, k2⟩, k3, k4⟩ LW5 hMB, KP5.set _ _⟩
          · go_simp
            refine hK.out _ _ trivial (fun hHeld2 => ?_)
            clear hK K
            (try simp only [Act.put, List.setIfInBounds_toArray, List.set_cons_zero, List.set_cons_succ])
            refine wpAnyH_ready (rs := [1, 5]) (by kernel_rfl) (by simp) ?_
            refine AllReadyH.cons (o := { dst := some 38, op := Op.load 32 (Operand.tmp 37), type := 32, pos := "l7_machine.go:298", after := #[{ on := 0, ground := Ground.data }], guard := none }) rfl (fun K hK => ?_) (AllReadyH.cons (o := { dst := some 42, op := Op.call { callee := Callee.value (Operand.func 81), args := #[Operand.tmp 41], argTypes := #[9] }, type := 3, pos := "l7_machine.go:298", after := #[{ on := 4, ground := Ground.data }], guard := none }) rfl (fun K hK => ?_) AllReadyH.nil)
            · go_simp
              refine hK.out _ _ trivial (fun hHeld2 => ?_)
              clear hK K
              (try simp only [Act.put, List.setIfInBounds_toArray, List.set_cons_zero, List.set_cons_succ])
              refine wpAnyH_ready (rs := [5]) (by kernel_rfl) (by simp) ?_
              refine AllReadyH.cons (o := { dst := some 42, op := Op.call { callee := Callee.value (Operand.func 81), args := #[Operand.tmp 41], argTypes := #[9] }, type := 3, pos := "l7_machine.go:298", after := #[{ on := 4, ground := Ground.data }], guard := none }) rfl (fun K hK => ?_) AllReadyH.nil
              go_simp
              (go_at_call 81; refine (HR1.out _).mono ?_; rintro e w7 ⟨rfl, rfl⟩)
              refine hK.out _ _ trivial (fun hHeld2 => ?_)
              clear hK K
              (try simp only [Act.put, List.setIfInBounds_toArray, List.set_cons_zero, List.set_cons_succ])
              refine wpAnyH_ready (rs := [6]) (by kernel_rfl) (by simp) ?_
              refine AllReadyH.cons (o := { dst := some 43, op := Op.buildSlice 32 1 #[(0, Operand.tmp 42)], type := 32, pos := "l7_machine.go:298", after := #[{ on := 5, ground := Ground.data }], guard := none }) rfl (fun K hK => ?_) AllReadyH.nil
              go_simp
              refine hK.out _ _ trivial (fun hHeld2 => ?_)
              clear hK K
              (try simp only [Act.put, List.setIfInBounds_toArray, List.set_cons_zero, List.set_cons_succ])
              refine wpAnyH_ready (rs := [7]) (by kernel_rfl) (by simp) ?_
              refine AllReadyH.cons (o := { dst := some 44, op := Op.call { callee := Callee.builtin Builtin.append, args := #[Operand.tmp 38, Operand.tmp 43], argTypes := #[32, 32] }, type := 32, pos := "l7_machine.go:298", after := #[{ on := 1, ground := Ground.data }, { on := 6, ground := Ground.data }, { on := 5, ground := Ground.chain }], guard := none }) rfl (fun K hK => ?_) AllReadyH.nil
              refine step_append_rd rfl (.tmp 38) (.tmp 43) 32 rfl B 3 i0 (.int .i64 0) 1 8 Tryd.underlying32 hi hi0 hi1 hi2 rfl (by decide) u2 _ _ (by simp [Act.eval]) (ownsRow_kept HLW.out.h2 ((Below.refl _ w4).drew.trans (below_alloc w4.drew (.cells #[.int .i64 v1] 3)))) ⟨w4.drew.heap.size, 0, none⟩ 1 1 [.int .i64 v1] (by simp [Act.eval]) rfl (fun j u hu => new_cell _ _ _ hu) (by simp [Value.oneCell']) HML1.out (by have := HML21.out; omega) (by simp; omega) ?_
              intro v5 w5 hown5 hgrow5 hat5
              obtain ⟨p5, d5, rfl⟩ := own_formL hown5
              obtain ⟨LW5, BX5, KP5⟩ := leaf1 HLW.out HBX.out hMB hBw (Below.refl _ w4).drew hown5 hgrow5 hat5
              clear k0 k1 k2 k3 k4 m0 m1 m2 m3 m4
              obtain ⟨⟨k0, k1, k2⟩, k3, k4⟩ := BX5
              refine hK.out _ _ trivial (fun hHeld2 => ?_)
              clear hK K
              (try simp only [Act.put, List.setIfInBounds_toArray, List.set_cons_zero, List.set_cons_succ])
              refine wpAnyH_take (i := 8) (oi := { dst := some 45, op := Op.fieldAddr 34 (Operand.tmp 4) 1, type := 0, pos := "l7_machine.go:298", after := #[{ on := 0, ground := Ground.phase }, { on := 1, ground := Ground.phase }, { on := 2, ground := Ground.phase }, { on := 3, ground := Ground.phase }, { on := 4, ground := Ground.phase }, { on := 5, ground := Ground.phase }, { on := 6, ground := Ground.phase }, { on := 7, ground := Ground.phase }], guard := none }) (v := ?_) rfl (by kernel_rfl) (by kernel_rfl) (by kernel_rfl) (fun _ _ _ h => nomatch h.1) (Or.inl ⟨by rfl, ?_⟩) (by assumption) ?_
              rotate_left
              · (intro wS hSw; go_simp; (try with_reducible rfl))
              (try simp only [Act.put, List.setIfInBounds_toArray, List.set_cons_zero, List.set_cons_succ])
              refine wpAnyH_ready (rs := [9]) (by kernel_rfl) (by simp) ?_
              refine AllReadyH.cons (o := { dst := none, op := Op.store 32 (Operand.tmp 45) (Operand.tmp 44), type := 0, pos := "l7_machine.go:298", after := #[{ on := 8, ground := Ground.data }, { on := 7, ground := Ground.data }, { on := 7, ground := Ground.chain }, { on := 0, ground := Ground.phase }, { on := 1, ground := Ground.phase }, { on := 2, ground := Ground.phase }, { on := 3, ground := Ground.phase }, { on := 4, ground := Ground.phase }, { on := 5, ground := Ground.phase }, { on := 6, ground := Ground.phase }, { on := 7, ground := Ground.phase }], guard := none }) rfl (fun K hK => ?_) AllReadyH.nil
              go_simp
              refine hK.out _ _ trivial (fun hHeld2 => ?_)
              clear hK K
              (try simp only [Act.put, List.setIfInBounds_toArray, List.set_cons_zero, List.set_cons_succ])
              refine wpAnyH_done (by kernel_rfl) ?_ _
              exact ⟨rfl, ⟨_, _, _, _, _, _, _, _, _, _, _, _, _, _, _, _, _, _, _, _, rfl⟩, _, _, fin1 ⟨⟨k0, k1, k2⟩, k3, k4⟩ LW5 hMB, KP5.set _ _⟩
            · go_simp
              (go_at_call 81; refine (HR1.out _).mono ?_; rintro e w7 ⟨rfl, rfl⟩)
              refine hK.out _ _ trivial (fun hHeld2 => ?_)
              clear hK K
              (try simp only [Act.put, List.setIfInBounds_toArray, List.set_cons_zero, List.set_cons_succ])
              refine wpAnyH_ready (rs := [1, 6]) (by kernel_rfl) (by simp) ?_
              refine AllReadyH.cons (o := { dst := some 38, op := Op.load 32 (Operand.tmp 37), type := 32, pos := "l7_machine.go:298", after := #[{ on := 0, ground := Ground.data }], guard := none }) rfl (fun K hK => ?_) (AllReadyH.cons (o := { dst := some 43, op := Op.buildSlice 32 1 #[(0, Operand.tmp 42)], type := 32, pos := "l7_machine.go:298", after := #[{ on := 5, ground := Ground.data }], guard := none }) rfl (fun K hK => ?_) AllReadyH.nil)
              · go_simp
                refine hK.out _ _ trivial (fun hHeld2 => ?_)
                clear hK K
                (try simp only [Act.put, List.setIfInBounds_toArray, List.set_cons_zero, List.set_cons_succ])
                refine wpAnyH_ready (rs := [6]) (by kernel_rfl) (by simp) ?_
                refine AllReadyH.cons (o := { dst := some 43, op := Op.buildSlice 32 1 #[(0, Operand.tmp 42)], type := 32, pos := "l7_machine.go:298", after := #[{ on := 5, ground := Ground.data }], guard := none }) rfl (fun K hK => ?_) AllReadyH.nil
                go_simp
                refine hK.out _ _ trivial (fun hHeld2 => ?_)
                clear hK K
                (try simp only [Act.put, List.setIfInBounds_toArray, List.set_cons_zero, List.set_cons_succ])
                refine wpAnyH_ready (rs := [7]) (by kernel_rfl) (by simp) ?_
                refine AllReadyH.cons (o := { dst := some 44, op := Op.call { callee := Callee.builtin Builtin.append, args := #[Operand.tmp 38, Operand.tmp 43], argTypes := #[32, 32] }, type := 32, pos := "l7_machine.go:298", after := #[{ on := 1, ground := Ground.data }, { on := 6, ground := Ground.data }, { on := 5, ground := Ground.chain }], guard := none }) rfl (fun K hK => ?_) AllReadyH.nil
                refine step_append_rd rfl (.tmp 38) (.tmp 43) 32 rfl B 3 i0 (.int .i64 0) 1 8 Tryd.underlying32 hi hi0 hi1 hi2 rfl (by decide) u2 _ _ (by simp [Act.eval]) (ownsRow_kept HLW.out.h2 ((Below.refl _ w4).drew.trans (below_alloc w4.drew (.cells #[.int .i64 v1] 3)))) ⟨w4.drew.heap.size, 0, none⟩ 1 1 [.int .i64 v1] (by simp [Act.eval]) rfl (fun j u hu => new_cell _ _ _ hu) (by simp [Value.oneCell']) HML1.out (by have := HML21.out; omega) (by simp; omega) ?_
                intro v5 w5 hown5 hgrow5 hat5
                obtain ⟨p5, d5, rfl⟩ := own_formL hown5
                obtain ⟨LW5, BX5, KP5⟩ := leaf1 HLW.out HBX.out hMB hBw (Below.refl _ w4).drew hown5 hgrow5 hat5
                clear k0 k1 k2 k3 k4 m0 m1 m2 m3 m4
                obtain ⟨⟨k0, k1, k2⟩, k3, k4⟩ := BX5
                refine hK.out _ _ trivial (fun hHeld2 => ?_)
                clear hK K
                (try simp only [Act.put, List.setIfInBounds_toArray, List.set_cons_zero, List.set_cons_succ])
                refine wpAnyH_take (i := 8) (oi := { dst := some 45, op := Op.fieldAddr 34 (Operand.tmp 4) 1, type := 0, pos := "l7_machine.go:298", after := #[{ on := 0, ground := Ground.phase }, { on := 1, ground := Ground.phase }, { on := 2, ground := Ground.phase }, { on := 3, ground := Ground.phase }, { on := 4, ground := Ground.phase }, { on := 5, ground := Ground.phase }, { on := 6, ground := Ground.phase }, { on := 7, ground := Ground.phase }], guard := none }) (v := ?_) rfl (by kernel_rfl) (by kernel_rfl) (by kernel_rfl) (fun _ _ _ h => nomatch h.1) (Or.inl ⟨by rfl, ?_⟩) (by assumption) ?_
                rotate_left
                · (intro wS hSw; go_simp; (try with_reducible rfl))
                (try simp only [Act.put, List.setIfInBounds_toArray, List.set_cons_zero, List.set_cons_succ])
                refine wpAnyH_ready (rs := [9]) (by kernel_rfl) (by simp) ?_
                refine AllReadyH.cons (o := { dst := none, op := Op.store 32 (Operand.tmp 45) (Operand.tmp 44), type := 0, pos := "l7_machine.go:298", after := #[{ on := 8, ground := Ground.data }, { on := 7, ground := Ground.data }, { on := 7, ground := Ground.chain }, { on := 0, ground := Ground.phase }, { on := 1, ground := Ground.phase }, { on := 2, ground := Ground.phase }, { on := 3, ground := Ground.phase }, { on := 4, ground := Ground.phase }, { on := 5, ground := Ground.phase }, { on := 6, ground := Ground.phase }, { on := 7, ground := Ground.phase }], guard := none }) rfl (fun K hK => ?_) AllReadyH.nil
                go_simp
                refine hK.out _ _ trivial (fun hHeld2 => ?_)
                clear hK K
                (try simp only [Act.put, List.setIfInBounds_toArray, List.set_cons_zero, List.set_cons_succ])
                refine wpAnyH_done (by kernel_rfl) ?_ _
                exact ⟨rfl, ⟨_, _, _, _, _, _, _, _, _, _, _, _, _, _, _, _, _, _, _, _, rfl⟩, _, _, fin1 ⟨⟨k0, k1, k2⟩, k3, k4⟩ LW5 hMB, KP5.set _ _⟩
              · go_simp
                refine hK.out _ _ trivial (fun hHeld2 => ?_)
                clear hK K
                (try simp only [Act.put, List.setIfInBounds_toArray, List.set_cons_zero, List.set_cons_succ])
                refine wpAnyH_ready (rs := [1]) (by kernel_rfl) (by simp) ?_
                refine AllReadyH.cons (o := { dst := some 38, op := Op.load 32 (Operand.tmp 37), type := 32, pos := "l7_machine.go:298", after := #[{ on := 0, ground := Ground.data }], guard := none }) rfl (fun K hK => ?_) AllReadyH.nil
                go_simp
                refine hK.out _ _ trivial (fun hHeld2 => ?_)
                clear hK K
                (try simp only [Act.put, List.setIfInBounds_toArray, List.set_cons_zero, List.set_cons_succ])
                refine wpAnyH_ready (rs := [7]) (by kernel_rfl) (by simp) ?_
                refine AllReadyH.cons (o := { dst := some 44, op := Op.call { callee := Callee.builtin Builtin.append, args := #[Operand.tmp 38, Operand.tmp 43], argTypes := #[32, 32] }, type := 32, pos := "l7_machine.go:298", after := #[{ on := 1, ground := Ground.data }, { on := 6, ground := Ground.data }, { on := 5, ground := Ground.chain }], guard := none }) rfl (fun K hK => ?_) AllReadyH.nil
                refine step_append_rd rfl (.tmp 38) (.tmp 43) 32 rfl B 3 i0 (.int .i64 0) 1 8 Tryd.underlying32 hi hi0 hi1 hi2 rfl (by decide) u2 _ _ (by simp [Act.eval]) (ownsRow_kept HLW.out.h2 ((Below.refl _ w4).drew.trans (below_alloc w4.drew (.cells #[.int .i64 v1] 3)))) ⟨w4.drew.heap.size, 0, none⟩ 1 1 [.int .i64 v1] (by simp [Act.eval]) rfl (fun j u hu => new_cell _ _ _ hu) (by simp [Value.oneCell']) HML1.out (by have := HML21.out; omega) (by simp; omega) ?_
                intro v5 w5 hown5 hgrow5 hat5
                obtain ⟨p5, d5, rfl⟩ := own_formL hown5
                obtain ⟨LW5, BX5, KP5⟩ := leaf1 HLW.out HBX.out hMB hBw (Below.refl _ w4).drew hown5 hgrow5 hat5
                clear k0 k1 k2 k3 k4 m0 m1 m2 m3 m4
                obtain ⟨⟨k0, k1, k2⟩, k3, k4⟩ := BX5
                refine hK.out _ _ trivial (fun hHeld2 => ?_)
                clear hK K
                (try simp only [Act.put, List.setIfInBounds_toArray, List.set_cons_zero, List.set_cons_succ])
                refine wpAnyH_take (i := 8) (oi := { dst := some 45, op := Op.fieldAddr 34 (Operand.tmp 4) 1, type := 0, pos := "l7_machine.go:298", after := #[{ on := 0, ground := Ground.phase }, { on := 1, ground := Ground.phase }, { on := 2, ground := Ground.phase }, { on := 3, ground := Ground.phase }, { on := 4, ground := Ground.phase }, { on := 5, ground := Ground.phase }, { on := 6, ground := Ground.phase }, { on := 7, ground := Ground.phase }], guard := none }) (v := ?_) rfl (by kernel_rfl) (by kernel_rfl) (by kernel_rfl) (fun _ _ _ h => nomatch h.1) (Or.inl ⟨by rfl, ?_⟩) (by assumption) ?_
                rotate_left
                · (intro wS hSw; go_simp; (try with_reducible rfl))
                (try simp only [Act.put, List.setIfInBounds_toArray, List.set_cons_zero, List.set_cons_succ])
                refine wpAnyH_ready (rs := [9]) (by kernel_rfl) (by simp) ?_
                refine AllReadyH.cons (o := { dst := none, op := Op.store 32 (Operand.tmp 45) (Operand.tmp 44), type := 0, pos := "l7_machine.go:298", after := #[{ on := 8, ground := Ground.data }, { on := 7, ground := Ground.data }, { on := 7, ground := Ground.chain }, { on := 0, ground := Ground.phase }, { on := 1, ground := Ground.phase }, { on := 2, ground := Ground.phase }, { on := 3, ground := Ground.phase }, { on := 4, ground := Ground.phase }, { on := 5, ground := Ground.phase }, { on := 6, ground := Ground.phase }, { on := 7, ground := Ground.phase }], guard := none }) rfl (fun K hK => ?_) AllReadyH.nil
                go_simp
                refine hK.out _ _ trivial (fun hHeld2 => ?_)
                clear hK K
                (try simp only [Act.put, List.setIfInBounds_toArray, List.set_cons_zero, List.set_cons_succ])
                refine wpAnyH_done (by kernel_rfl) ?_ _
                exact ⟨rfl, ⟨_, _, _, _, _, _, _, _, _, _, _, _, _, _, _, _, _, _, _, _, rfl⟩, _, _, fin1 ⟨⟨k0, k1, k2⟩, k3, k4⟩ LW5 hMB, KP5.set _ _⟩
        rintro e a' w6 ⟨rfl, ⟨z27, z28, z29, z30, z31, z32, z33, z34, z35, z36, z37, z38, z39, z40, z41, z42, z43, z44, z45, z46, rfl⟩, p6, d6, ⟨hbx6, hlw6⟩, hk6⟩
        have HBX6 := Lib.hid hbx6
        have HLW6 := Lib.hid hlw6
        have KP := Lib.hid (HK.out.trans (HK3.out.trans (HK4.out.trans hk6)))
        clear hbx6 hlw6 hk6
        go_wp2_with fail
        refine ⟨⟨j + 1, by go_num, by omega, HTY.out, KP.out, _, _, HBX6.out, ?_⟩, by simp [RowKit.intOf]; omega⟩
        rw [HNX.out, HDX.out]
        exact HLW6.out
      · have HOK := Lib.hid (HTX.out h2)
        have hn2 : ¬ ((((spl 47 p).length : Nat) : Int) = 2) := by omega
        obtain ⟨⟨r0, r1, r2⟩, r3, r4⟩ := HR3.out
        have hok : mpOk l = false := by rw [mpOk, hps, HOK.out]; rfl
        have HB3 : Hid (Below w.heap.size w w3) := Lib.hid ((hb01.trans (HK.out.below (n := w.heap.size) (by omega) (by omega))).trans (hb3.mono (by omega)))
        clear hrow2 hb3
        go_wp2_with fail
        rw [hok]
        have g0 : ((w3.setCell ⟨w.heap.size, 0, none⟩ (.slice none 0 0)).setCell ⟨w.heap.size, 1, none⟩ (.slice none 0 0)).cell? ⟨w.heap.size, 0, none⟩ = some (.slice none 0 0) := by go_simp
        have g1 : ((w3.setCell ⟨w.heap.size, 0, none⟩ (.slice none 0 0)).setCell ⟨w.heap.size, 1, none⟩ (.slice none 0 0)).cell? ⟨w.heap.size, 1, none⟩ = some (.slice none 0 0) := by go_simp
        refine bodyPost_ret (v := .tuple #[.agg #[.slice none 0 0, .slice none 0 0], .bool false]) (by simp [results, Tryd.f45, go_sem, g0, g1]) rfl ⟨_, rfl, macAt_nil _ _, ?_⟩
        exact (HB3.out.setCell (p := ⟨w.heap.size, 0, none⟩) (Nat.le_refl _) _).setCell (p := ⟨w.heap.size, 1, none⟩) (Nat.le_refl _) _
    · obtain rfl : j = ps.length := by omega
      have hjj : ¬ ((ps.length : Int) < (ps.length : Int)) := by omega
      have hl4 := HL.out
      have hT4 := hT
      rw [List.take_length] at hl4 hT4
      have hok : mpOk l = maB (mpN ps) (mpD ps) := by rw [mpOk, hps, hT4]; rfl
      have hnl := mpN_len ps
      have hdl := mpD_len ps
      have hpsl : ps.length ≤ 201 := by have := HPL.out; omega
      obtain ⟨p1, d1, e1⟩ := own_formL hl4.h1
      obtain ⟨p2, d2, e2⟩ := own_formL hl4.h2
      subst e1 e2
      have HLW := Lib.hid hl4
      have hdn : (mpD ps).length = (mpN ps).length := by omega
      rw [hdn] at hl4
      clear HLW
      have HLW := Lib.hid hl4
      have HM := Lib.hid (fun W hb => maGood_any (mpN ps) (mpD ps) _ W (by omega) (by omega) ((lw_mac (lo := B) (n := (mpN ps).length) hl4 (Nat.le_refl _) rfl rfl rfl hdn).isIn.kept hb))
      have HBW : Hid (Below w.heap.size w wr) := Lib.hid (hb01.trans (HK.out.below (n := w.heap.size) (by omega) (by omega)))
      have HX2 := HX
      rw [hdn] at HX2
      have hBw : B ≤ wr.heap.size := by omega
      obtain ⟨⟨k0, k1, k2⟩, k3, k4⟩ := HX2.out
      generalize mpN ps = ns at *
      generalize mpD ps = ds at *
      generalize maB ns ds = ok at *
      have HDN := Lib.hid hdn
      have HOK := Lib.hid hok
      have hMB : w.heap.size + 2 ≤ B := by omega
      clear HL hl4 HX HK hbM hbR HCL hT hT4 hnl hdl hdn hok hps hj hlt hbx hlw hK hB hne hl2 HPL HPM HNE hpsl hb01 hgg hg2

      go_wp2_with fail
      refine (HM.out _ (Below.refl _ _)).mono ?_
      rintro e w4 ⟨rfl, hb4⟩
      have HX4 := HX2.out.kept hb4
      have HR4 := HR.out.kept hb4
      have HL4 := Lib.hid (HLW.out.kept hb4)
      have HB4 := Lib.hid (HBW.out.trans (hb4.mono HBW.out.size))
      have hz4 := hb4.size
      clear hb4 k0 k1 k2 k3 k4 HX2 HR HLW
      obtain ⟨⟨k0, k1, k2⟩, k3, k4⟩ := HX4
      obtain ⟨⟨r0, r1, r2⟩, r3, r4⟩ := HR4
      cases ok
      · go_wp2_with fail
        rw [HOK.out]
        have g0 : ((w4.setCell ⟨w.heap.size, 0, none⟩ (.slice none 0 0)).setCell ⟨w.heap.size, 1, none⟩ (.slice none 0 0)).cell? ⟨w.heap.size, 0, none⟩ = some (.slice none 0 0) := by go_simp
        have g1 : ((w4.setCell ⟨w.heap.size, 0, none⟩ (.slice none 0 0)).setCell ⟨w.heap.size, 1, none⟩ (.slice none 0 0)).cell? ⟨w.heap.size, 1, none⟩ = some (.slice none 0 0) := by go_simp
        refine bodyPost_ret (v := .tuple #[.agg #[.slice none 0 0, .slice none 0 0], .bool false]) (by simp [results, Tryd.f45, go_sem, g0, g1]) rfl ⟨_, rfl, macAt_nil _ _, ?_⟩
        exact (HB4.out.setCell (p := ⟨w.heap.size, 0, none⟩) (Nat.le_refl _) _).setCell (p := ⟨w.heap.size, 1, none⟩) (Nat.le_refl _) _
      · go_wp2_with fail
        rw [HOK.out]
        have g0 : ((w4.setCell ⟨w.heap.size, 0, none⟩ (.slice p1 ns.length d1)).setCell ⟨w.heap.size, 1, none⟩ (.slice p2 ns.length d2)).cell? ⟨w.heap.size, 0, none⟩ = some (.slice p1 ns.length d1) := by go_simp
        have g1 : ((w4.setCell ⟨w.heap.size, 0, none⟩ (.slice p1 ns.length d1)).setCell ⟨w.heap.size, 1, none⟩ (.slice p2 ns.length d2)).cell? ⟨w.heap.size, 1, none⟩ = some (.slice p2 ns.length d2) := by go_simp
        refine bodyPost_ret (v := .tuple #[.agg #[.slice p1 ns.length d1, .slice p2 ns.length d2], .bool true]) (by simp [results, Tryd.f45, go_sem, g0, g1]) rfl ⟨_, rfl, ?_, ?_⟩
        · exact lw_mac ((HL4.out.set (O := w.heap.size) (k := 0) (by omega) (.slice p1 ns.length d1)).set (O := w.heap.size) (k := 1) (by omega) (.slice p2 ns.length d2)) (by omega) rfl rfl rfl HDN.out
        · exact (HB4.out.setCell (p := ⟨w.heap.size, 0, none⟩) (Nat.le_refl _) _).setCell (p := ⟨w.heap.size, 1, none⟩) (Nat.le_refl _) _

/-- Is the text a machine's? What does it tell? -/
def mpB (l : List UInt8) : Bool := if l = [45] then true else decide (l.length ≤ 200) && mpOk l
def mpX (l : List UInt8) (xs : List Int) : List Int := if l = [45] then [] else tdX (mpB l) xs
theorem maParse_any (l : List UInt8) (hl : l.length ≤ 1048576) (w : World) :
    Calls Tryd.prog 45 #[.string (byt l)] w (RetMac (mpX l (mpN (spl 44 l))) (mpX l (mpD (spl 44 l))) (mpB l) w) := by
  by_cases h : l = [45]
  · have e0 : mpB l = true := by rw [mpB, if_pos h]
    have e1 : mpX l (mpN (spl 44 l)) = [] := by rw [mpX, if_pos h]
    have e2 : mpX l (mpD (spl 44 l)) = [] := by rw [mpX, if_pos h]
    rw [e0, e1, e2]
    subst h
    have hm : ((byt [45]).toList == [45]) = true := by rw [b45]; rfl
    clear e0 e1 e2 hl
    go_enter Tryd.func45, Tryd.ntmps45
    go_wp2_with fail
    refine bodyPost_ret (v := .tuple #[.agg #[.slice none 0 0, .slice none 0 0], .bool true]) (by simp [results, Tryd.f45, go_sem]) rfl ⟨_, rfl, macAt_nil _ _, ?_⟩
    exact (((Below.refl _ w).alloc (Nat.le_refl _) _).alloc (by simp) _)
  · have hne : ((byt l).toList == [45]) = false := by
      have h2 : byt l ≠ byt [45] := fun e => h (by simpa [byt] using e)
      have := str_ne h2
      rwa [b45] at this
    by_cases h200 : l.length ≤ 200
    · have e0 : mpB l = mpOk l := by rw [mpB, if_neg h, decide_eq_true h200]; rfl
      have e1 : mpX l (mpN (spl 44 l)) = tdX (mpOk l) (mpN (spl 44 l)) := by rw [mpX, if_neg h, e0]
      have e2 : mpX l (mpD (spl 44 l)) = tdX (mpOk l) (mpD (spl 44 l)) := by rw [mpX, if_neg h, e0]
      rw [e0, e1, e2]
      exact maParse0 l h200 hne w
    · have e0 : mpB l = false := by rw [mpB, if_neg h, decide_eq_false h200]; rfl
      have e1 : mpX l (mpN (spl 44 l)) = [] := by rw [mpX, if_neg h, e0]; rfl
      have e2 : mpX l (mpD (spl 44 l)) = [] := by rw [mpX, if_neg h, e0]; rfl
      rw [e0, e1, e2]
      have hsz : (((byt l).size : Nat) : Int) = (l.length : Int) := by rw [dbl]
      have hl2 : 200 < (l.length : Int) := by omega
      clear e0 e1 e2
      go_enter Tryd.func45, Tryd.ntmps45
      go_wp2_with fail
      refine bodyPost_ret (v := .tuple #[.agg #[.slice none 0 0, .slice none 0 0], .bool false]) (by simp [results, Tryd.f45, go_sem]) rfl ⟨_, rfl, macAt_nil _ _, ?_⟩
      exact (((Below.refl _ w).alloc (Nat.le_refl _) _).alloc (by simp) _)
end Go.Proofs.YtgobjobppajkbaaDoor
