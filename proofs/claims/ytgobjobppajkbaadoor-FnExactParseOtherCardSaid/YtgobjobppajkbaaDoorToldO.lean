/-
  'ifTold', 'ParseOther' of the program (gen_tdo.py).
-/
import Derived.Test.YtgobjobppajkbaaDoorRdO
import Derived.Test.YtgobjobppajkbaaDoorOtX
namespace Go.Proofs.YtgobjobppajkbaaDoor
open Go.RowKit
set_option linter.unusedVariables false

theorem omB_longT {ps : List Pt} (h : 8 < ps.length) : omB ps = false := by
  rw [Bool.eq_false_iff]; intro e; have := (omB_len e).2; omega
theorem isOther_long (ps : List Pt) (v : Value) (w : World) (h8 : 8 < ps.length) (hm : ps.length ≤ 2000000) (h : OthIn w v ps) :
    Calls Tryd.prog 90 #[v] w fun e w' => e = .returned (.bool false) ∧ Below w.heap.size w w' := by
  obtain ⟨a, c, rfl, hx⟩ := h.rd
  clear h hx
  have HB := Lib.hid (fun X => (Below.refl w.heap.size w).alloc (Nat.le_refl _) X)
  have hK : (ps.length : Int) ≤ 2000000 := by omega
  have h2 : (8 : Int) < (ps.length : Int) := by omega
  have h1 : ¬ (ps.length : Int) < 1 := by omega
  clear hm h8
  generalize ps.length = K at *
  go_enter Tryd.func90, Tryd.ntmps90
  go_wp2_with fail
  go_ret
  exact ⟨rfl, HB.out _⟩
theorem iOtherText_long (ps : List Pt) (v : Value) (w : World) (h8 : 8 < ps.length) (hm : ps.length ≤ 2000000) (h : OthIn w v ps) :
    Calls Tryd.prog 52 #[v] w fun e w' => e = .returned (.tuple #[.string (otX ps), .bool (omB ps)]) ∧ Below w.heap.size w w' := by
  obtain ⟨v1, rfl, i1⟩ := h
  have B := Lib.hid (Bo.new w v1 42)
  have M : Hid (OthIn (w.alloc (.cells #[v1] 42)) (.agg #[v1]) ps) := Lib.hid ⟨v1, rfl, i1.kept (below_new w (.cells #[v1] 42))⟩
  have HB := Lib.hid (below_new w (.cells #[v1] 42))
  have HG := Lib.hid (fun W hm' => isOther_long ps (.agg #[v1]) W h8 hm hm')
  have hg : omB ps = false := omB_longT h8
  have HE := Lib.hid (otX_no hg)
  rw [hg]
  clear i1 hg h8 hm
  go_enter Tryd.func52, Tryd.ntmps52
  go_wp2_with fail
  refine (HG.out _ M.out).mono ?_
  rintro e w1 ⟨rfl, hb1⟩
  replace HB := Lib.hid (HB.out.trans (hb1.mono HB.out.size))
  clear hb1
  go_wp2_with fail
  go_ret2
  exact ⟨ret_tb HE.out.symm rfl, HB.out⟩
/-- 'OtherText', whatever is given. -/
theorem iOtherText_all (ps : List Pt) (v : Value) (w : World) (hm : ps.length ≤ 2000000) (htab : Tab w) (h : OthIn w v ps) :
    Calls Tryd.prog 52 #[v] w fun e w' => e = .returned (.tuple #[.string (otX ps), .bool (omB ps)]) ∧ Below w.heap.size w w' := by
  by_cases h8 : 8 < ps.length
  · exact iOtherText_long ps v w h8 hm h
  · exact iOtherText ps v w (by omega) htab h

/-- Is it told so? -/
def toB (s : ByteArray) (ps : List Pt) : Bool := omB ps && decide (otX ps = s)
/-- What comes of it. -/
def ifO (b : Bool) (ps : List Pt) : List Pt := if b = true then ps else []
set_option maxHeartbeats 4000000 in
theorem ifToldO_any (lo hi : Nat) (ps : List Pt) (v : Value) (s : ByteArray) (w : World) (hm : ps.length ≤ 2000000) (htab : Tab w) (h : OthAt w lo hi v ps) :
    Calls Tryd.prog 50 #[v, .func (.func 52) #[] #[], .string s] w fun e w' => (∃ v', e = .returned (.tuple #[v', .bool (toB s ps)]) ∧ OthAt w' lo hi v' (ifO (toB s ps) ps)) ∧ Below w.heap.size w w' := by
  have HH := Lib.hid h
  have HI := h.isIn
  have hhi := h.1
  obtain ⟨_, a1, c1, rfl, _⟩ := h
  have HT : Hid (∀ W, Below w.heap.size w W → Calls Tryd.prog 52 #[.agg #[.slice a1 ps.length c1]] W fun e w' => e = .returned (.tuple #[.string (otX ps), .bool (omB ps)]) ∧ Below W.heap.size W w') := Lib.hid (fun W hb => iOtherText_all ps _ W hm (tab_below htab hb) (HI.kept hb))
  obtain ⟨n1, hn1⟩ : ∃ n1, ps.length = n1 := ⟨_, rfl⟩
  rw [hn1] at HT HH ⊢
  have HB := Lib.hid ((below_new w (.cells #[.slice a1 n1 c1] 42)).alloc (by simp) (.cells #[.slice none 0 0] 42))
  have B1 := Lib.hid ((Bo.new w (.slice a1 n1 c1) 42).kept (below_new _ (.cells #[.slice none 0 0] 42)))
  have B2 := Lib.hid (BoF.new (w.alloc (.cells #[.slice a1 n1 c1] 42)) (.slice none 0 0) 42 rfl)
  have HD : Hid (∀ b : Bool, (b = true → otX ps = s) → (b = false → ¬ otX ps = s) → toB s ps = (omB ps && b)) := Lib.hid (fun b h1 h2 => by cases b <;> simp [toB, h1, h2])
  obtain ⟨x, hx⟩ : ∃ x, otX ps = x := ⟨_, rfl⟩
  rw [hx] at HT HD
  obtain ⟨g, hg⟩ : ∃ g, omB ps = g := ⟨_, rfl⟩
  rw [hg] at HT HD
  clear hx hg HI htab
  obtain ⟨f, hf⟩ : ∃ f, toB s ps = f := ⟨_, rfl⟩
  rw [hf] at HD ⊢
  clear hf hn1 hm
  by_cases he : x = s
  · have hn := str_eq s
    obtain rfl : f = g := by rw [HD.out true (fun _ => he) (fun h => by cases h)]; simp
    subst he
    clear HD
    cases f
    · go_enter Tryd.func50, Tryd.ntmps50
      go_wp2_with fail
      refine (HT.out _ HB.out).mono ?_
      rintro e w1 ⟨rfl, hb1⟩
      have HB1 := Lib.hid (HB.out.trans (hb1.mono HB.out.size))
      obtain ⟨k0, k3⟩ := B1.out.kept hb1
      have HJ := Lib.hid (B2.out.kept hb1)
      have hz := hb1.size
      simp only [World.size_alloc] at hz
      clear hb1
      have HJA := Lib.hid (HJ.out.kept (below_new w1 (.cells #[.slice none 0 0] 42)))
      have HBA := Lib.hid (HB1.out.trans ((below_new w1 (.cells #[.slice none 0 0] 42)).mono HB1.out.size))
      obtain ⟨m0, m1⟩ := HJA.out.cells
      simp only [World.size_alloc] at m0 m1
      have hnn : ¬ w1.heap.size = w.heap.size + 1 := by omega
      have hnn2 : ¬ w.heap.size + 1 = w1.heap.size := by omega
      go_wp2_with fail
      have j0 := (HJA.out.set (.slice none 0 0)).1.1
      simp only [World.size_alloc] at j0
      refine bodyPost_ret (v := .tuple #[.agg #[.slice none 0 0], .bool false]) (by simp [results, Tryd.f50, go_sem, j0]) rfl ⟨⟨_, rfl, ?_⟩, ?_⟩
      · exact othAt_none (by simp; omega)
      · exact HBA.out.setCell (p := ⟨w.heap.size + 1, 0, none⟩) (by dsimp only; omega) _
    · go_enter Tryd.func50, Tryd.ntmps50
      go_wp2_with fail
      refine (HT.out _ HB.out).mono ?_
      rintro e w1 ⟨rfl, hb1⟩
      have HB1 := Lib.hid (HB.out.trans (hb1.mono HB.out.size))
      obtain ⟨k0, k3⟩ := B1.out.kept hb1
      have HJ := Lib.hid (B2.out.kept hb1)
      have hz := hb1.size
      simp only [World.size_alloc] at hz
      clear hb1
      obtain ⟨m0, m1⟩ := HJ.out.cells
      simp only [World.size_alloc] at m0 m1
      go_wp2_with fail
      have j0 := (HJ.out.set (.slice a1 n1 c1)).1.1
      simp only [World.size_alloc] at j0
      refine bodyPost_ret (v := .tuple #[.agg #[.slice a1 n1 c1], .bool true]) (by simp [results, Tryd.f50, go_sem, j0]) rfl ⟨⟨_, rfl, ?_⟩, ?_⟩
      · exact HH.out.kept (HB1.out.setCell (p := ⟨w.heap.size + 1, 0, none⟩) (by dsimp only; omega) _)
      · exact HB1.out.setCell (p := ⟨w.heap.size + 1, 0, none⟩) (by dsimp only; omega) _
  · have hn := str_ne he
    obtain rfl : f = false := by rw [HD.out false (fun h => by cases h) (fun _ => he)]; simp
    clear HD he
    cases g
    · go_enter Tryd.func50, Tryd.ntmps50
      go_wp2_with fail
      refine (HT.out _ HB.out).mono ?_
      rintro e w1 ⟨rfl, hb1⟩
      have HB1 := Lib.hid (HB.out.trans (hb1.mono HB.out.size))
      obtain ⟨k0, k3⟩ := B1.out.kept hb1
      have HJ := Lib.hid (B2.out.kept hb1)
      have hz := hb1.size
      simp only [World.size_alloc] at hz
      clear hb1
      have HJA := Lib.hid (HJ.out.kept (below_new w1 (.cells #[.slice none 0 0] 42)))
      have HBA := Lib.hid (HB1.out.trans ((below_new w1 (.cells #[.slice none 0 0] 42)).mono HB1.out.size))
      obtain ⟨m0, m1⟩ := HJA.out.cells
      simp only [World.size_alloc] at m0 m1
      have hnn : ¬ w1.heap.size = w.heap.size + 1 := by omega
      have hnn2 : ¬ w.heap.size + 1 = w1.heap.size := by omega
      go_wp2_with fail
      have j0 := (HJA.out.set (.slice none 0 0)).1.1
      simp only [World.size_alloc] at j0
      refine bodyPost_ret (v := .tuple #[.agg #[.slice none 0 0], .bool false]) (by simp [results, Tryd.f50, go_sem, j0]) rfl ⟨⟨_, rfl, ?_⟩, ?_⟩
      · exact othAt_none (by simp; omega)
      · exact HBA.out.setCell (p := ⟨w.heap.size + 1, 0, none⟩) (by dsimp only; omega) _
    · go_enter Tryd.func50, Tryd.ntmps50
      go_wp2_with fail
      refine (HT.out _ HB.out).mono ?_
      rintro e w1 ⟨rfl, hb1⟩
      have HB1 := Lib.hid (HB.out.trans (hb1.mono HB.out.size))
      obtain ⟨k0, k3⟩ := B1.out.kept hb1
      have HJ := Lib.hid (B2.out.kept hb1)
      have hz := hb1.size
      simp only [World.size_alloc] at hz
      clear hb1
      have HJA := Lib.hid (HJ.out.kept (below_new w1 (.cells #[.slice none 0 0] 42)))
      have HBA := Lib.hid (HB1.out.trans ((below_new w1 (.cells #[.slice none 0 0] 42)).mono HB1.out.size))
      obtain ⟨m0, m1⟩ := HJA.out.cells
      simp only [World.size_alloc] at m0 m1
      have hnn : ¬ w1.heap.size = w.heap.size + 1 := by omega
      have hnn2 : ¬ w.heap.size + 1 = w1.heap.size := by omega
      go_wp2_with fail
      have j0 := (HJA.out.set (.slice none 0 0)).1.1
      simp only [World.size_alloc] at j0
      refine bodyPost_ret (v := .tuple #[.agg #[.slice none 0 0], .bool false]) (by simp [results, Tryd.f50, go_sem, j0]) rfl ⟨⟨_, rfl, ?_⟩, ?_⟩
      · exact othAt_none (by simp; omega)
      · exact HBA.out.setCell (p := ⟨w.heap.size + 1, 0, none⟩) (by dsimp only; omega) _

theorem opL_len (l : List UInt8) : (opL l).length ≤ l.length + 1 := by
  rw [opL, List.length_map]; exact spl_len 59 l
set_option maxHeartbeats 1000000 in
/-- 'ParseOther' of the program. -/
theorem iParseOther (l : List UInt8) (hl : l.length ≤ 1048576) (w : World) (hw : Set3 w) :
    Calls Tryd.prog 20 #[.string (byt l)] w (RetO (ifO (opB l) (opL l)) (opB l) w) := by
  have HR : Hid (∀ W, Set3 W → Calls Tryd.prog 51 #[.string (byt l)] W fun e w' => ∃ v, e = .returned v ∧ OthAt w' W.heap.size w'.heap.size v (opL l) ∧ Below W.heap.size W w') := Lib.hid (fun W hW => readOther_any (byt l) (by rw [byt_size]; exact hl) W hW)
  have HW := Lib.hid hw
  have hlm : (opL l).length ≤ 2000000 := by have := opL_len l; omega
  have HT : Hid (∀ lo hi v W, Tab W → OthAt W lo hi v (opL l) → Calls Tryd.prog 50 #[v, .func (.func 52) #[] #[], .string (byt l)] W fun e w' => (∃ v', e = .returned (.tuple #[v', .bool (opB l)]) ∧ OthAt w' lo hi v' (ifO (opB l) (opL l))) ∧ Below W.heap.size W w') := Lib.hid (fun lo hi v W hT hm => ifToldO_any lo hi (opL l) v (byt l) W hlm hT hm)
  generalize opB l = ok at *
  generalize ifO ok (opL l) = ps2 at *
  generalize opL l = ps at *
  have HB := Lib.hid (below_new w (.cells #[.slice none 0 0] 42))
  have B := Lib.hid (BoF.new w (.slice none 0 0) 42 rfl)
  clear hw hlm hl
  go_enter Tryd.func20, Tryd.ntmps20
  go_wp2_with fail
  refine (HR.out _ (HW.out.below HB.out)).mono ?_
  rintro e w1 ⟨v1, rfl, m1, hb1⟩
  have HB1 := Lib.hid (HB.out.trans (hb1.mono HB.out.size))
  have B1 := Lib.hid (B.out.kept hb1)
  have M1 := Lib.hid m1
  obtain ⟨_, a1, c1, rfl, _⟩ := m1
  clear hb1
  go_wp2_with fail
  refine (HT.out _ _ _ _ (HW.out.below HB1.out).tab M1.out).mono ?_
  rintro e w2 ⟨⟨v2, rfl, m2⟩, hb2⟩
  have HB2 := Lib.hid (HB1.out.trans (hb2.mono HB1.out.size))
  have B2 := Lib.hid (B1.out.kept hb2)
  obtain ⟨k0, k1⟩ := B2.out.cells
  have hz1 := B1.out.1.2
  have hz2 := B2.out.1.2
  have M2 := Lib.hid m2
  obtain ⟨_, a3, c3, rfl, _⟩ := m2
  clear hb2
  go_wp2_with fail
  have g0 := (B2.out.set (.slice a3 ps2.length c3)).1.1
  refine bodyPost_ret (v := .tuple #[.agg #[.slice a3 ps2.length c3], .bool ok]) (by simp [results, Tryd.f20, go_sem, g0]) rfl ⟨_, rfl, (M2.out.of (w' := w2.setCell ⟨w.heap.size, 0, none⟩ (.slice a3 ps2.length c3)) (by simp) (fun g h1 h2 => setO_heap _ _ _ (by simp at h1; omega))).wide (by simp) (by simp; exact M2.out.1) (Nat.le_refl _), ?_⟩
  exact HB2.out.setCell (p := ⟨w.heap.size, 0, none⟩) (Nat.le_refl _) _
end Go.Proofs.YtgobjobppajkbaaDoor
