/-
  WHAT THE LAWS DO TO A DESK: its size, a copy, comparing, marking, holding.
-/
import Derived.Test.YtkikmmnmppikpaaMachL
import Derived.Test.YtkikmmnmppikpaaBx
import Derived.Test.YtkikmmnmppikpaaLeaf
namespace Go.Proofs.Ytkikmmnmppikpaa
open Go.ChangeShapes Go.WideShapes Go.RowKit
set_option linter.unusedVariables false

/-- A desk as a value. -/
def dkV (t p n : Int) (v1 v2 : Value) : Value := .agg #[.int .i64 t, .int .i64 p, .int .i64 n, v1, v2]
/-- The caller's desk. -/
def ArgD (w : World) (v : Value) (t p n : Int) (ns ds : List Int) : Prop := ∃ v1 v2, v = .agg #[.int .i64 t, .int .i64 p, .int .i64 n, v1, v2] ∧ ArgM w (.agg #[v1, v2]) ns ds
theorem ArgD.kept {w w' : World} {v : Value} {t p n : Int} {ns ds : List Int} (h : ArgD w v t p n ns ds) (hb : Below w.heap.size w w') : ArgD w' v t p n ns ds := by
  obtain ⟨v1, v2, rfl, h1⟩ := h
  exact ⟨v1, v2, rfl, h1.kept hb⟩
/-- A desk to be read. -/
def DkIn (w : World) (v : Value) (t p n : Int) (ns ds : List Int) : Prop := ∃ v1 v2, v = .agg #[.int .i64 t, .int .i64 p, .int .i64 n, v1, v2] ∧ MacIn w (.agg #[v1, v2]) ns ds
theorem DkIn.kept {w w' : World} {v : Value} {t p n : Int} {ns ds : List Int} (h : DkIn w v t p n ns ds) (hb : Below w.heap.size w w') : DkIn w' v t p n ns ds := by
  obtain ⟨v1, v2, rfl, h1⟩ := h
  exact ⟨v1, v2, rfl, h1.kept hb⟩
/-- A desk of the call's own. -/
def DkAt (w : World) (lo hi : Nat) (v : Value) (t p n : Int) (ns ds : List Int) : Prop := ∃ v1 v2, v = .agg #[.int .i64 t, .int .i64 p, .int .i64 n, v1, v2] ∧ MacAt w lo hi (.agg #[v1, v2]) ns ds
theorem DkAt.of {w w' : World} {lo hi : Nat} {v : Value} {t p n : Int} {ns ds : List Int} (h : DkAt w lo hi v t p n ns ds) (hs : w.heap.size ≤ w'.heap.size) (he : ∀ g, lo ≤ g → g < hi → w'.heap[g]? = w.heap[g]?) : DkAt w' lo hi v t p n ns ds := by
  obtain ⟨v1, v2, rfl, h1⟩ := h
  exact ⟨v1, v2, rfl, h1.of hs he⟩
theorem DkAt.kept {w w' : World} {lo hi : Nat} {v : Value} {t p n : Int} {ns ds : List Int} (h : DkAt w lo hi v t p n ns ds) (hb : Below w.heap.size w w') : DkAt w' lo hi v t p n ns ds := by
  obtain ⟨v1, v2, rfl, h1⟩ := h
  exact ⟨v1, v2, rfl, h1.kept hb⟩
theorem DkAt.touch {w w' : World} {lo hi lo' hi' : Nat} {v : Value} {t p n : Int} {ns ds : List Int} (h : DkAt w lo hi v t p n ns ds) (ht : Touch lo' hi' w w') (hd : hi ≤ lo' ∨ hi' ≤ lo) : DkAt w' lo hi v t p n ns ds := by
  obtain ⟨v1, v2, rfl, h1⟩ := h
  exact ⟨v1, v2, rfl, h1.touch ht hd⟩
theorem DkAt.isIn {w : World} {lo hi : Nat} {v : Value} {t p n : Int} {ns ds : List Int} (h : DkAt w lo hi v t p n ns ds) : DkIn w v t p n ns ds := by
  obtain ⟨v1, v2, rfl, h1⟩ := h
  exact ⟨v1, v2, rfl, h1.isIn⟩
/-- A box that holds a desk. -/
def Bd (w : World) (b : Nat) (t p n : Int) (x y : Value) : Prop := (w.cell? ⟨b, 0, none⟩ = some (.int .i64 t) ∧ w.cell? ⟨b, 1, none⟩ = some (.int .i64 p) ∧ w.cell? ⟨b, 2, none⟩ = some (.int .i64 n) ∧ w.cell? ⟨b, 3, none⟩ = some x ∧ w.cell? ⟨b, 4, none⟩ = some y) ∧ b < w.heap.size
theorem Bd.of {w w' : World} {b : Nat} {t p n : Int} {x y : Value} (h : Bd w b t p n x y) (hs : w.heap.size ≤ w'.heap.size) (he : w'.heap[b]? = w.heap[b]?) : Bd w' b t p n x y :=
  ⟨⟨(World.cell?_of_block (a := ⟨b, _, none⟩) he).trans h.1.1, (World.cell?_of_block (a := ⟨b, _, none⟩) he).trans h.1.2.1, (World.cell?_of_block (a := ⟨b, _, none⟩) he).trans h.1.2.2.1, (World.cell?_of_block (a := ⟨b, _, none⟩) he).trans h.1.2.2.2.1, (World.cell?_of_block (a := ⟨b, _, none⟩) he).trans h.1.2.2.2.2⟩, Nat.lt_of_lt_of_le h.2 hs⟩
theorem Bd.kept {w w' : World} {b : Nat} {t p n : Int} {x y : Value} (h : Bd w b t p n x y) (hb : Below w.heap.size w w') : Bd w' b t p n x y := h.of hb.size (hb.block b h.2)
theorem Bd.touch {w w' : World} {lo hi b : Nat} {t p n : Int} {x y : Value} (h : Bd w b t p n x y) (ht : Touch lo hi w w') (hd : b < lo ∨ hi ≤ b) : Bd w' b t p n x y := h.of ht.size (ht.block b h.2 hd)
theorem Bd.new (w : World) (t p n : Int) (x y : Value) (T : TypeId) : Bd (w.alloc (.cells #[.int .i64 t, .int .i64 p, .int .i64 n, x, y] T)) w.heap.size t p n x y := ⟨⟨by go_simp, by go_simp, by go_simp, by go_simp, by go_simp⟩, by simp⟩
theorem Bd.grow {w : World} {b : Nat} {t p n : Int} {x y : Value} (h : Bd w b t p n x y) (X : Obj) : Bd (w.alloc X) b t p n x y := h.kept (below_alloc w X)

theorem szDesk_any (t p n : Int) (ns ds : List Int) (v : Value) (w : World) (h : ArgD w v t p n ns ds) :
    Calls Try.prog 13 #[v, .int .i64 1048576] w fun e w' => e = .returned (.int .i64 (szM ns.length ds.length)) ∧ Below w.heap.size w w' := by
  obtain ⟨v1, v2, rfl, hm⟩ := h
  have HB := Lib.hid (below_alloc w (.cells #[.int .i64 t, .int .i64 p, .int .i64 n, v1, v2] 36))
  have HC := Lib.hid (fun W (hb : Below w.heap.size w W) => szMachine_any ns ds _ W (hm.kept hb))
  obtain ⟨_, _, e, ⟨a1, c1, rfl, _⟩, ⟨a2, c2, rfl, _⟩, _⟩ := hm
  cases e
  have HE : Hid (szM ns.length ds.length < 0 → szM ns.length ds.length = -1) := Lib.hid (fun e => by unfold szM at *; split at e <;> simp_all; omega)
  have HL : Hid (szM ns.length ds.length ≤ 1048576) := Lib.hid (by unfold szM; split <;> omega)
  generalize ns.length = n1 at *
  generalize ds.length = n2 at *
  obtain ⟨s, hs⟩ : ∃ s, szM n1 n2 = s := ⟨_, rfl⟩
  rw [hs] at HC HE HL ⊢
  clear hs
  by_cases hn : s < 0
  · obtain rfl := HE.out hn
    go_enter Try.func13, Try.ntmps13
    go_wp2_with fail
    refine (HC.out _ HB.out).mono ?_
    rintro e w2 ⟨rfl, hb2⟩
    go_wp2_with fail
    go_ret
    exact ⟨rfl, HB.out.trans (hb2.mono HB.out.size)⟩
  · go_enter Try.func13, Try.ntmps13
    go_wp2_with fail
    refine (HC.out _ HB.out).mono ?_
    rintro e w2 ⟨rfl, hb2⟩
    go_wp2_with fail
    go_ret
    exact ⟨rfl, HB.out.trans (hb2.mono HB.out.size)⟩

theorem toMap_anyD (t p : Int) (w : World) :
    Calls Try.prog 30 #[.agg #[.int .i64 t, .int .i64 p]] w fun e w' => e = .returned (.agg #[.int .i64 t, .int .i64 p]) ∧ Below w.heap.size w w' := by
  go_enter Try.func30, Try.ntmps30
  go_wp2
  exact bodyPost_ret (v := .agg #[.int .i64 t, .int .i64 p]) (by simp [results, Try.results30, go_sem]) rfl ⟨rfl, (((Below.refl _ _).alloc (Nat.le_refl _) _).alloc (by simp) _).alloc (by simp; omega) _⟩
theorem eqMap_anyD (t p : Int) (w : World) :
    Calls Try.prog 35 #[.agg #[.int .i64 t, .int .i64 p], .agg #[.int .i64 t, .int .i64 p]] w fun e w' => e = .returned (.bool true) ∧ Below w.heap.size w w' := by
  go_enter Try.func35, Try.ntmps35
  go_wp2
  go_ret
  exact ⟨rfl, ((Below.refl _ _).alloc (Nat.le_refl _) _).alloc (by simp) _⟩

set_option maxHeartbeats 1000000 in
theorem eqDesk_any (t p n : Int) (ns ds : List Int) (v v' : Value) (w : World) (h1 : ns.length ≤ 1048576) (h2 : ds.length ≤ 1048576) (h : DkIn w v t p n ns ds) (h' : DkIn w v' t p n ns ds) :
    Calls Try.prog 10 #[v, v'] w fun e w' => e = .returned (.bool true) ∧ Below w.heap.size w w' := by
  obtain ⟨v1, v2, rfl, i1⟩ := h
  obtain ⟨v1', v2', rfl, i1'⟩ := h'
  have HC := Lib.hid (fun W (hb : Below w.heap.size w W) => eqMachine_any ns ds _ _ W h1 h2 (i1.kept hb) (i1'.kept hb))
  clear i1 i1' h1 h2
  have HM := Lib.hid (fun W => eqMap_anyD t p W)
  have B1 := Lib.hid (Bd.new w t p n v1 v2 28)
  have B1' := Lib.hid (Bd.new (w.alloc (.cells #[.int .i64 t, .int .i64 p, .int .i64 n, v1, v2] 28)) t p n v1' v2' 28)
  replace B1 := Lib.hid (B1.out.grow (.cells #[.int .i64 t, .int .i64 p, .int .i64 n, v1', v2'] 28))
  have HB := Lib.hid (((Below.refl w.heap.size w).alloc (Nat.le_refl _) (.cells #[.int .i64 t, .int .i64 p, .int .i64 n, v1, v2] 28)).alloc (by simp) (.cells #[.int .i64 t, .int .i64 p, .int .i64 n, v1', v2'] 28))
  go_enter Try.func10, Try.ntmps10
  go_wp2_with fail
  refine (HM.out _).mono ?_
  rintro e w1 ⟨rfl, hb1⟩
  replace B1 := Lib.hid (B1.out.kept hb1)
  replace B1' := Lib.hid (B1'.out.kept hb1)
  replace HB := Lib.hid (HB.out.trans (hb1.mono HB.out.size))
  clear hb1
  obtain ⟨⟨p0, p1, p2, p4, p5⟩, p3⟩ := B1.out
  obtain ⟨⟨q0, q1, q2, q4, q5⟩, q3⟩ := B1'.out
  simp only [World.size_alloc] at q0 q1 q2 q3 q4 q5
  go_wp2_with fail
  refine (HC.out _ HB.out).mono ?_
  rintro e w2 ⟨rfl, hb2⟩
  have HB2 := Lib.hid (HB.out.trans (hb2.mono HB.out.size))
  clear hb2
  go_wp2_with fail
  go_ret
  exact ⟨rfl, HB2.out⟩

set_option maxHeartbeats 2000000 in
theorem toDesk_any (t p n : Int) (ns ds : List Int) (v : Value) (w : World) (h1 : ns.length ≤ 1048576) (h2 : ds.length ≤ 1048576) (h : ArgD w v t p n ns ds) :
    Calls Try.prog 15 #[v] w fun e w' => ∃ v', e = .returned v' ∧ DkAt w' w.heap.size w'.heap.size v' t p n ns ds ∧ Below w.heap.size w w' := by
  obtain ⟨v1, v2, rfl, hp⟩ := h
  have HC := Lib.hid (fun W (hb : Below w.heap.size w W) => toMachine_any ns ds _ W h1 h2 (hp.kept hb))
  have HM := Lib.hid (fun W => toMap_anyD t p W)
  obtain ⟨_, _, e, ⟨a1, c1, rfl, _⟩, ⟨a2, c2, rfl, _⟩, _⟩ := hp
  cases e
  clear h1 h2
  obtain ⟨W0, hW0⟩ : ∃ W0, W0 = (((w.alloc (.cells #[.int .i64 t, .int .i64 p, .int .i64 n, .slice a1 ns.length c1, .slice a2 ds.length c2] 36)).alloc (.cells #[.int .i64 0, .int .i64 0, .int .i64 0, .slice none 0 0, .slice none 0 0] 28)).alloc (.cells #[.int .i64 0, .int .i64 0, .int .i64 0, .slice none 0 0, .slice none 0 0] 28)) := ⟨_, rfl⟩
  have hb0 : Below w.heap.size w W0 := by rw [hW0]; exact (((Below.refl _ w).alloc (Nat.le_refl _) _).alloc (by simp) _).alloc (by simp; omega) _
  have hz0 : W0.heap.size = w.heap.size + 3 := by rw [hW0]; simp
  have HBA : Hid (Bd W0 w.heap.size t p n (.slice a1 ns.length c1) (.slice a2 ds.length c2)) := Lib.hid (by rw [hW0]; exact ((Bd.new _ _ _ _ _ _ _).grow _).grow _)
  have HBR : Hid (Bd W0 (w.heap.size + 1) 0 0 0 (.slice none 0 0) (.slice none 0 0)) := Lib.hid (by rw [hW0]; exact ⟨⟨by go_simp, by go_simp, by go_simp, by go_simp, by go_simp⟩, by simp⟩)
  have HBO : Hid (Bd W0 (w.heap.size + 1 + 1) 0 0 0 (.slice none 0 0) (.slice none 0 0)) := Lib.hid (by rw [hW0]; exact ⟨⟨by go_simp, by go_simp, by go_simp, by go_simp, by go_simp⟩, by simp⟩)
  have HFZ : Hid (∀ b o, w.heap.size < b → b < w.heap.size + 3 → W0.frozen? ⟨b, o, none⟩ = false) := Lib.hid (fun b o h1 h2 => by
    rw [hW0]
    have : b = w.heap.size + 1 ∨ b = w.heap.size + 1 + 1 := by omega
    rcases this with rfl | rfl <;> go_simp)
  have HB0 := Lib.hid hb0
  have HZ0 := Lib.hid hz0
  clear hb0 hz0
  go_enter Try.func15, Try.ntmps15
  go_wp2_with fail
  rw [← hW0]
  refine (HM.out _).mono ?_
  rintro e w1 ⟨rfl, hb1⟩
  clear hW0
  replace HBA := Lib.hid (HBA.out.kept hb1)
  replace HBR := Lib.hid (HBR.out.kept hb1)
  replace HBO := Lib.hid (HBO.out.kept hb1)
  replace HFZ : Hid (∀ b o, w.heap.size < b → b < w.heap.size + 3 → w1.frozen? ⟨b, o, none⟩ = false) := Lib.hid (fun b o h1 h2 => (hb1.frozen (p := ⟨b, o, none⟩) (by have := HZ0.out; simp; omega)).trans (HFZ.out b o h1 h2))
  have HB1 := Lib.hid (HB0.out.trans (hb1.mono HB0.out.size))
  have HZ1 : Hid (w.heap.size + 3 ≤ w1.heap.size) := Lib.hid (by rw [← HZ0.out]; exact hb1.size)
  clear hb1 HB0 HZ0
  obtain ⟨⟨a0, a1, a2, a3, a4⟩, a5⟩ := HBA.out
  obtain ⟨⟨o0, o1, o2, o3, o4⟩, o5⟩ := HBO.out
  have f0 := HFZ.out (w.heap.size + 1 + 1) 0 (by omega) (by omega)
  have f1 := HFZ.out (w.heap.size + 1 + 1) 1 (by omega) (by omega)
  have f2 := HFZ.out (w.heap.size + 1 + 1) 2 (by omega) (by omega)
  go_wp2_with fail
  refine (HC.out _ (((HB1.out.setCell (by simp; omega) _).setCell (by simp; omega) _).setCell (by simp; omega) _)).mono ?_
  rintro e w2 ⟨g2, rfl, row2, hb2⟩
  have hs2 : w1.heap.size ≤ w2.heap.size := by have := hb2.size; simpa using this
  simp only [World.size_setCell] at hb2 row2
  have hz1 := HZ1.out
  have cell2 : ∀ b o, b < w1.heap.size → w2.cell? ⟨b, o, none⟩ = (((w1.setCell ⟨w.heap.size + 1 + 1, 0, none⟩ (.int .i64 t)).setCell ⟨w.heap.size + 1 + 1, 1, none⟩ (.int .i64 p)).setCell ⟨w.heap.size + 1 + 1, 2, none⟩ (.int .i64 n)).cell? ⟨b, o, none⟩ := fun b o h => hb2.cell (p := ⟨b, o, none⟩) h
  have fz2 : ∀ b o, b < w1.heap.size → w2.frozen? ⟨b, o, none⟩ = w1.frozen? ⟨b, o, none⟩ := fun b o h => (hb2.frozen (p := ⟨b, o, none⟩) h).trans (by rw [World.frozen?_setCell, World.frozen?_setCell, World.frozen?_setCell])
  have far : ∀ b o, b < w1.heap.size → ¬ b = w.heap.size + 1 + 1 → w2.cell? ⟨b, o, none⟩ = w1.cell? ⟨b, o, none⟩ := fun b o h hne => (cell2 b o h).trans ((World.cell?_setCell_other _ _ _ _ (by first | (simp [hne]; done) | simp)).trans ((World.cell?_setCell_other _ _ _ _ (by first | (simp [hne]; done) | simp)).trans (World.cell?_setCell_other _ _ _ _ (by first | (simp [hne]; done) | simp))))
  have u0 : w2.cell? ⟨w.heap.size + 1 + 1, 0, none⟩ = some (.int .i64 t) := (cell2 _ _ (by omega)).trans ((World.cell?_setCell_other _ _ _ _ (by simp)).trans ((World.cell?_setCell_other _ _ _ _ (by simp)).trans (World.cell?_setCell_same' _ _ _ (by rw [o0]; rfl))))
  have u1 : w2.cell? ⟨w.heap.size + 1 + 1, 1, none⟩ = some (.int .i64 p) := (cell2 _ _ (by omega)).trans ((World.cell?_setCell_other _ _ _ _ (by simp)).trans (World.cell?_setCell_same' _ _ _ (by rw [World.cell?_setCell_other _ _ _ _ (by simp), o1]; rfl)))
  have u2 : w2.cell? ⟨w.heap.size + 1 + 1, 2, none⟩ = some (.int .i64 n) := (cell2 _ _ (by omega)).trans (World.cell?_setCell_same' _ _ _ (by rw [World.cell?_setCell_other _ _ _ _ (by simp), World.cell?_setCell_other _ _ _ _ (by simp), o2]; rfl))
  have u3 : w2.cell? ⟨w.heap.size + 1 + 1, 3, none⟩ = some (.slice none 0 0) := (cell2 _ _ (by omega)).trans ((World.cell?_setCell_other _ _ _ _ (by simp)).trans ((World.cell?_setCell_other _ _ _ _ (by simp)).trans ((World.cell?_setCell_other _ _ _ _ (by simp)).trans o3)))
  have u4 : w2.cell? ⟨w.heap.size + 1 + 1, 4, none⟩ = some (.slice none 0 0) := (cell2 _ _ (by omega)).trans ((World.cell?_setCell_other _ _ _ _ (by simp)).trans ((World.cell?_setCell_other _ _ _ _ (by simp)).trans ((World.cell?_setCell_other _ _ _ _ (by simp)).trans o4)))
  have r0 := (far (w.heap.size + 1) 0 (by omega) (by omega)).trans HBR.out.1.1
  have r1 := (far (w.heap.size + 1) 1 (by omega) (by omega)).trans HBR.out.1.2.1
  have r2 := (far (w.heap.size + 1) 2 (by omega) (by omega)).trans HBR.out.1.2.2.1
  have r3 := (far (w.heap.size + 1) 3 (by omega) (by omega)).trans HBR.out.1.2.2.2.1
  have r4 := (far (w.heap.size + 1) 4 (by omega) (by omega)).trans HBR.out.1.2.2.2.2
  have z3 := (fz2 (w.heap.size + 1 + 1) 3 (by omega)).trans (HFZ.out (w.heap.size + 1 + 1) 3 (by omega) (by omega))
  have z4 := (fz2 (w.heap.size + 1 + 1) 4 (by omega)).trans (HFZ.out (w.heap.size + 1 + 1) 4 (by omega) (by omega))
  have y0 := (fz2 (w.heap.size + 1) 0 (by omega)).trans (HFZ.out (w.heap.size + 1) 0 (by omega) (by omega))
  have y1 := (fz2 (w.heap.size + 1) 1 (by omega)).trans (HFZ.out (w.heap.size + 1) 1 (by omega) (by omega))
  have y2 := (fz2 (w.heap.size + 1) 2 (by omega)).trans (HFZ.out (w.heap.size + 1) 2 (by omega) (by omega))
  have y3 := (fz2 (w.heap.size + 1) 3 (by omega)).trans (HFZ.out (w.heap.size + 1) 3 (by omega) (by omega))
  have y4 := (fz2 (w.heap.size + 1) 4 (by omega)).trans (HFZ.out (w.heap.size + 1) 4 (by omega) (by omega))
  obtain ⟨hh2, b1, d1, b2, d2, rfl, q1, q2, q3⟩ := row2
  have HROW : Hid (MacAt w2 w1.heap.size w2.heap.size (.agg #[.slice b1 ns.length d1, .slice b2 ds.length d2]) ns ds) := Lib.hid ⟨hh2, b1, d1, b2, d2, rfl, q1, q2, q3⟩
  have HB2 : Hid (Below w.heap.size w w2) := Lib.hid ((((HB1.out.setCell (by simp; omega) _).setCell (by simp; omega) _).setCell (by simp; omega) _).trans (hb2.mono (by omega)))
  have HSZ : Hid (w.heap.size + 3 ≤ w1.heap.size ∧ w1.heap.size ≤ w2.heap.size) := Lib.hid ⟨hz1, hs2⟩
  clear q1 q2 q3 hh2 hb2 cell2 fz2 far o0 o1 o2 o3 o4 o5 a0 a1 a2 a3 a4 a5 f0 f1 f2 hs2 hz1
  go_wp2_with fail
  refine bodyPost_ret (v := .agg #[.int .i64 t, .int .i64 p, .int .i64 n, .slice b1 ns.length d1, .slice b2 ds.length d2]) (by simp [results, Try.f15, go_sem, r0, r1, r2, r3, r4]) rfl ⟨_, rfl, ⟨_, _, rfl, ?_⟩, ?_⟩
  · have h := HROW.out
    simp only [World.size_setCell]
    have hw := HSZ.out
    have h3 := h.of (w' := (((((w2.setCell ⟨w.heap.size + 1 + 1, 3, none⟩ (.slice b1 ns.length d1)).setCell ⟨w.heap.size + 1 + 1, 4, none⟩ (.slice b2 ds.length d2)).setCell ⟨w.heap.size + 1, 0, none⟩ (.int .i64 t)).setCell ⟨w.heap.size + 1, 1, none⟩ (.int .i64 p)).setCell ⟨w.heap.size + 1, 2, none⟩ (.int .i64 n)).setCell ⟨w.heap.size + 1, 3, none⟩ (.slice b1 ns.length d1) |>.setCell ⟨w.heap.size + 1, 4, none⟩ (.slice b2 ds.length d2)) (by simp) (fun g hg _ => by
      rw [Below.heap_setCell _ _ _ _ (by simp; omega), Below.heap_setCell _ _ _ _ (by simp; omega), Below.heap_setCell _ _ _ _ (by simp; omega), Below.heap_setCell _ _ _ _ (by simp; omega), Below.heap_setCell _ _ _ _ (by simp; omega), Below.heap_setCell _ _ _ _ (by simp; omega), Below.heap_setCell _ _ _ _ (by simp; omega)])
    obtain ⟨k1, x1, y1, x2, y2, e, k2, k3, k4⟩ := h3
    exact ⟨k1, x1, y1, x2, y2, e, k2.wide (by omega) (Nat.le_refl _), k3.wide (by omega) (Nat.le_refl _), k4⟩
  · exact ((((((HB2.out.setCell (by simp; omega) _).setCell (by simp; omega) _).setCell (by simp) _).setCell (by simp) _).setCell (by simp) _).setCell (by simp) _).setCell (by simp) _
end Go.Proofs.Ytkikmmnmppikpaa
