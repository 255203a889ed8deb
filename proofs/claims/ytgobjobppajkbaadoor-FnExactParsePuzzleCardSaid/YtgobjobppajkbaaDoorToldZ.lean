/-
  'ifTold', 'ParsePuzzle' of the program (gen_tdz.py).
-/
import Derived.Test.YtgobjobppajkbaaDoorRdZ
import Derived.Test.YtgobjobppajkbaaDoorPtX
import Derived.Test.YtgobjobppajkbaaDoorPpM
namespace Go.Proofs.YtgobjobppajkbaaDoor
open Go.RowKit
set_option linter.unusedVariables false

theorem isPuzzle_long (t p : Int) (ps : List Pt) (v : Value) (w : World) (h6 : 6 < ps.length) (hm : ps.length ≤ 2000000) (h : PuzIn w v t p ps) :
    Calls Tryd.prog 60 #[v] w fun e w' => e = .returned (.bool false) ∧ Below w.heap.size w w' := by
  obtain ⟨a, c, rfl, _, hx⟩ := h.cl
  clear h hx
  have HB := Lib.hid (below_new w (.cells #[.int .i64 t, .int .i64 p, .slice a ps.length c] 55))
  have B := Lib.hid (Bz.new w t p (.slice a ps.length c) 55)
  have HG := Lib.hid (fun W => isMap_any t p W)
  have hK : (ps.length : Int) ≤ 2000000 := by omega
  have hd : decide ((ps.length : Int) ≤ 6) = false := by simp; omega
  have h6' : ¬ (ps.length : Int) ≤ 6 := by omega
  generalize goodB t p = g at HG
  clear hm h6
  generalize ps.length = K at *
  cases g
  · go_enter Tryd.func60, Tryd.ntmps60
    go_wp2_with (go_at_call 37; refine (HG.out _).mono ?_; rintro e w1 ⟨rfl, hb1⟩; have HB1 := Lib.hid (HB.out.trans (hb1.mono HB.out.size)); clear hb1)
    go_ret
    exact ⟨rfl, HB1.out⟩
  · go_enter Tryd.func60, Tryd.ntmps60
    go_wp2_with (go_at_call 37; refine (HG.out _).mono ?_; rintro e w1 ⟨rfl, hb1⟩; have HB1 := Lib.hid (HB.out.trans (hb1.mono HB.out.size)); obtain ⟨⟨p0, p1, p2⟩, p3⟩ := (B.out.kept hb1); clear hb1)
    go_ret
    exact ⟨rfl, HB1.out⟩
theorem iPuzzleText_long (mt mp : Int) (ps : List Pt) (v : Value) (w : World) (h6 : 6 < ps.length) (hm : ps.length ≤ 2000000) (h : PuzIn w v mt mp ps) :
    Calls Tryd.prog 27 #[v] w fun e w' => e = .returned (.tuple #[.string (pzX mt mp ps), .bool (pzB mt mp ps)]) ∧ Below w.heap.size w w' := by
  have HM := Lib.hid (fun W (hb : Below w.heap.size w W) => h.kept hb)
  obtain ⟨v1, rfl, i1⟩ := h.parts
  have B := Lib.hid (Bz.new w mt mp v1 55)
  have HB := Lib.hid (below_new w (.cells #[.int .i64 mt, .int .i64 mp, v1] 55))
  have M := Lib.hid (HM.out _ HB.out)
  have HG := Lib.hid (fun W hm' => isPuzzle_long mt mp ps (.agg #[.int .i64 mt, .int .i64 mp, v1]) W h6 hm hm')
  have hg : pzB mt mp ps = false := pzB_long h6
  have HE := Lib.hid (pzX_no hg)
  rw [hg]
  clear h i1 hg h6 hm
  go_enter Tryd.func27, Tryd.ntmps27
  go_wp2_with fail
  refine (HG.out _ M.out).mono ?_
  rintro e w1 ⟨rfl, hb1⟩
  replace HB := Lib.hid (HB.out.trans (hb1.mono HB.out.size))
  clear hb1
  go_wp2_with fail
  go_ret2
  exact ⟨ret_tbP HE.out.symm rfl, HB.out⟩
/-- 'PuzzleText', whatever is given. -/
theorem iPuzzleText_all (mt mp : Int) (ps : List Pt) (v : Value) (w : World) (hm : ps.length ≤ 2000000) (htab : Tab w) (h : PuzIn w v mt mp ps) :
    Calls Tryd.prog 27 #[v] w fun e w' => e = .returned (.tuple #[.string (pzX mt mp ps), .bool (pzB mt mp ps)]) ∧ Below w.heap.size w w' := by
  by_cases h6 : 6 < ps.length
  · exact iPuzzleText_long mt mp ps v w h6 hm h
  · exact iPuzzleText mt mp ps v w (by omega) htab h

/-- Is it told so? -/
def tzB (s : ByteArray) (t p : Int) (ps : List Pt) : Bool := pzB t p ps && decide (pzX t p ps = s)
/-- What comes of it. -/
def ifL (b : Bool) (ps : List Pt) : List Pt := if b = true then ps else []
theorem puzAt_nil (w : World) (B : Nat) : PuzAt w B w.heap.size (.agg #[.int .i64 0, .int .i64 0, .slice none 0 0]) 0 0 [] := ⟨Nat.le_refl _, none, 0, rfl, ⟨Nat.le_refl _, Nat.zero_le _⟩, fun h => (h rfl).elim⟩
theorem put3F {w : World} {b : Nat} {x y : Int} {u : Value} (h : BzF w b x y u) (t p : Int) (z : Value) : BzF (put3 w b t p z) b t p z := by
  obtain ⟨g0, g1, g2⟩ := put3_cells h t p z
  exact ⟨⟨⟨g0, g1, g2⟩, by rw [put3_size]; exact h.1.2⟩, fun o => by unfold put3; rw [World.frozen?_setCell, World.frozen?_setCell, World.frozen?_setCell]; exact h.2 o⟩
theorem puzAt_none {w : World} {lo hi : Nat} (h : hi ≤ w.heap.size) : PuzAt w lo hi (.agg #[.int .i64 0, .int .i64 0, .slice none 0 0]) 0 0 [] := ⟨h, none, 0, rfl, ⟨Nat.le_refl _, Nat.zero_le _⟩, fun h => (h rfl).elim⟩

set_option maxHeartbeats 4000000 in
theorem ifToldZ_any (lo hi : Nat) (t p : Int) (ps : List Pt) (v : Value) (s : ByteArray) (w : World) (hm : ps.length ≤ 2000000) (htab : Tab w) (h : PuzAt w lo hi v t p ps) :
    Calls Tryd.prog 67 #[v, .func (.func 27) #[] #[], .string s] w fun e w' => (∃ v', e = .returned (.tuple #[v', .bool (tzB s t p ps)]) ∧ PuzAt w' lo hi v' (ifT (tzB s t p ps) t) (ifT (tzB s t p ps) p) (ifL (tzB s t p ps) ps)) ∧ Below w.heap.size w w' := by
  have HH := Lib.hid h
  have HI := h.isIn
  have hhi := h.1
  obtain ⟨_, a1, c1, rfl, _⟩ := h
  have HT : Hid (∀ W, Below w.heap.size w W → Calls Tryd.prog 27 #[.agg #[.int .i64 t, .int .i64 p, .slice a1 ps.length c1]] W fun e w' => e = .returned (.tuple #[.string (pzX t p ps), .bool (pzB t p ps)]) ∧ Below W.heap.size W w') := Lib.hid (fun W hb => iPuzzleText_all t p ps _ W hm (tab_below htab hb) (HI.kept hb))
  obtain ⟨n1, hn1⟩ : ∃ n1, ps.length = n1 := ⟨_, rfl⟩
  rw [hn1] at HT HH ⊢
  have HB := Lib.hid ((below_alloc w (.cells #[.int .i64 t, .int .i64 p, .slice a1 n1 c1] 55)).alloc (by simp) (.cells #[.int .i64 0, .int .i64 0, .slice none 0 0] 55))
  have B1 := Lib.hid ((Bz.new w t p (.slice a1 n1 c1) 55).kept (below_alloc _ (.cells #[.int .i64 0, .int .i64 0, .slice none 0 0] 55)))
  have B2 := Lib.hid (BzF.new (w.alloc (.cells #[.int .i64 t, .int .i64 p, .slice a1 n1 c1] 55)) 0 0 (.slice none 0 0) 55 rfl)
  have HD : Hid (∀ b : Bool, (b = true → pzX t p ps = s) → (b = false → ¬ pzX t p ps = s) → tzB s t p ps = (pzB t p ps && b)) := Lib.hid (fun b h1 h2 => by cases b <;> simp [tzB, h1, h2])
  obtain ⟨x, hx⟩ : ∃ x, pzX t p ps = x := ⟨_, rfl⟩
  rw [hx] at HT HD
  obtain ⟨g, hg⟩ : ∃ g, pzB t p ps = g := ⟨_, rfl⟩
  rw [hg] at HT HD
  clear hx hg HI htab
  obtain ⟨f, hf⟩ : ∃ f, tzB s t p ps = f := ⟨_, rfl⟩
  rw [hf] at HD ⊢
  clear hf hn1 hm
  by_cases he : x = s
  · have hn := str_eq s
    obtain rfl : f = g := by rw [HD.out true (fun _ => he) (fun h => by cases h)]; simp
    subst he
    clear HD
    cases f
    · go_enter Tryd.func67, Tryd.ntmps67
      go_wp2_with fail
      refine (HT.out _ HB.out).mono ?_
      rintro e w1 ⟨rfl, hb1⟩
      have HB1 := Lib.hid (HB.out.trans (hb1.mono HB.out.size))
      obtain ⟨⟨k0, k1, k2⟩, k3⟩ := B1.out.kept hb1
      have HJ := Lib.hid (B2.out.kept hb1)
      obtain ⟨m0, m1, m2, m3, m4, m5⟩ := HJ.out.cells
      have hz := hb1.size
      simp only [World.size_alloc] at hz m0 m1 m2 m3 m4 m5
      clear hb1
      have HJA := Lib.hid (HJ.out.kept (below_alloc w1 (.cells #[.int .i64 0, .int .i64 0, .slice none 0 0] 55)))
      have HBA := Lib.hid (HB1.out.trans ((below_alloc w1 (.cells #[.int .i64 0, .int .i64 0, .slice none 0 0] 55)).mono HB1.out.size))
      clear m0 m1 m2 m3 m4 m5
      obtain ⟨m0, m1, m2, m3, m4, m5⟩ := HJA.out.cells
      simp only [World.size_alloc] at m0 m1 m2 m3 m4 m5
      have hnn : ¬ w1.heap.size = w.heap.size + 1 := by omega
      have hnn2 : ¬ w.heap.size + 1 = w1.heap.size := by omega
      go_wp2_with fail
      obtain ⟨j0, j1, j2⟩ := put3_cells HJA.out 0 0 (.slice none 0 0)
      unfold put3 at j0 j1 j2
      simp only [World.size_alloc] at j0 j1 j2
      refine bodyPost_ret (v := .tuple #[.agg #[.int .i64 0, .int .i64 0, .slice none 0 0], .bool false]) (by simp [results, Tryd.f67, go_sem, j0, j1, j2]) rfl ⟨⟨_, rfl, ?_⟩, ?_⟩
      · exact puzAt_none (by simp; omega)
      · exact put3_below HBA.out (b := w.heap.size + 1) (by omega) _ _ _
    · go_enter Tryd.func67, Tryd.ntmps67
      go_wp2_with fail
      refine (HT.out _ HB.out).mono ?_
      rintro e w1 ⟨rfl, hb1⟩
      have HB1 := Lib.hid (HB.out.trans (hb1.mono HB.out.size))
      obtain ⟨⟨k0, k1, k2⟩, k3⟩ := B1.out.kept hb1
      have HJ := Lib.hid (B2.out.kept hb1)
      obtain ⟨m0, m1, m2, m3, m4, m5⟩ := HJ.out.cells
      have hz := hb1.size
      simp only [World.size_alloc] at hz m0 m1 m2 m3 m4 m5
      clear hb1
      go_wp2_with fail
      obtain ⟨j0, j1, j2⟩ := put3_cells HJ.out t p (.slice a1 n1 c1)
      unfold put3 at j0 j1 j2
      simp only [World.size_alloc] at j0 j1 j2
      refine bodyPost_ret (v := .tuple #[.agg #[.int .i64 t, .int .i64 p, .slice a1 n1 c1], .bool true]) (by simp [results, Tryd.f67, go_sem, j0, j1, j2]) rfl ⟨⟨_, rfl, ?_⟩, ?_⟩
      · exact HH.out.kept (put3_below HB1.out (b := w.heap.size + 1) (by omega) _ _ _)
      · exact put3_below HB1.out (b := w.heap.size + 1) (by omega) _ _ _
  · have hn := str_ne he
    obtain rfl : f = false := by rw [HD.out false (fun h => by cases h) (fun _ => he)]; simp
    clear HD he
    cases g
    · go_enter Tryd.func67, Tryd.ntmps67
      go_wp2_with fail
      refine (HT.out _ HB.out).mono ?_
      rintro e w1 ⟨rfl, hb1⟩
      have HB1 := Lib.hid (HB.out.trans (hb1.mono HB.out.size))
      obtain ⟨⟨k0, k1, k2⟩, k3⟩ := B1.out.kept hb1
      have HJ := Lib.hid (B2.out.kept hb1)
      obtain ⟨m0, m1, m2, m3, m4, m5⟩ := HJ.out.cells
      have hz := hb1.size
      simp only [World.size_alloc] at hz m0 m1 m2 m3 m4 m5
      clear hb1
      have HJA := Lib.hid (HJ.out.kept (below_alloc w1 (.cells #[.int .i64 0, .int .i64 0, .slice none 0 0] 55)))
      have HBA := Lib.hid (HB1.out.trans ((below_alloc w1 (.cells #[.int .i64 0, .int .i64 0, .slice none 0 0] 55)).mono HB1.out.size))
      clear m0 m1 m2 m3 m4 m5
      obtain ⟨m0, m1, m2, m3, m4, m5⟩ := HJA.out.cells
      simp only [World.size_alloc] at m0 m1 m2 m3 m4 m5
      have hnn : ¬ w1.heap.size = w.heap.size + 1 := by omega
      have hnn2 : ¬ w.heap.size + 1 = w1.heap.size := by omega
      go_wp2_with fail
      obtain ⟨j0, j1, j2⟩ := put3_cells HJA.out 0 0 (.slice none 0 0)
      unfold put3 at j0 j1 j2
      simp only [World.size_alloc] at j0 j1 j2
      refine bodyPost_ret (v := .tuple #[.agg #[.int .i64 0, .int .i64 0, .slice none 0 0], .bool false]) (by simp [results, Tryd.f67, go_sem, j0, j1, j2]) rfl ⟨⟨_, rfl, ?_⟩, ?_⟩
      · exact puzAt_none (by simp; omega)
      · exact put3_below HBA.out (b := w.heap.size + 1) (by omega) _ _ _
    · go_enter Tryd.func67, Tryd.ntmps67
      go_wp2_with fail
      refine (HT.out _ HB.out).mono ?_
      rintro e w1 ⟨rfl, hb1⟩
      have HB1 := Lib.hid (HB.out.trans (hb1.mono HB.out.size))
      obtain ⟨⟨k0, k1, k2⟩, k3⟩ := B1.out.kept hb1
      have HJ := Lib.hid (B2.out.kept hb1)
      obtain ⟨m0, m1, m2, m3, m4, m5⟩ := HJ.out.cells
      have hz := hb1.size
      simp only [World.size_alloc] at hz m0 m1 m2 m3 m4 m5
      clear hb1
      have HJA := Lib.hid (HJ.out.kept (below_alloc w1 (.cells #[.int .i64 0, .int .i64 0, .slice none 0 0] 55)))
      have HBA := Lib.hid (HB1.out.trans ((below_alloc w1 (.cells #[.int .i64 0, .int .i64 0, .slice none 0 0] 55)).mono HB1.out.size))
      clear m0 m1 m2 m3 m4 m5
      obtain ⟨m0, m1, m2, m3, m4, m5⟩ := HJA.out.cells
      simp only [World.size_alloc] at m0 m1 m2 m3 m4 m5
      have hnn : ¬ w1.heap.size = w.heap.size + 1 := by omega
      have hnn2 : ¬ w.heap.size + 1 = w1.heap.size := by omega
      go_wp2_with fail
      obtain ⟨j0, j1, j2⟩ := put3_cells HJA.out 0 0 (.slice none 0 0)
      unfold put3 at j0 j1 j2
      simp only [World.size_alloc] at j0 j1 j2
      refine bodyPost_ret (v := .tuple #[.agg #[.int .i64 0, .int .i64 0, .slice none 0 0], .bool false]) (by simp [results, Tryd.f67, go_sem, j0, j1, j2]) rfl ⟨⟨_, rfl, ?_⟩, ?_⟩
      · exact puzAt_none (by simp; omega)
      · exact put3_below HBA.out (b := w.heap.size + 1) (by omega) _ _ _

theorem pcL_len (l : List UInt8) : (pcL l).length ≤ l.length + 1 := by
  unfold pcL
  split
  · simp
  · rw [List.length_map]; exact spl_len 44 l
set_option maxHeartbeats 1000000 in
/-- 'ParsePuzzle' of the program. -/
theorem iParsePuzzle (l : List UInt8) (hl : l.length ≤ 1048576) (w : World) (hw : Set3 w) :
    Calls Tryd.prog 30 #[.string (byt l)] w (RetPuz (ifT (ppB l) (ppT l)) (ifT (ppB l) (ppP l)) (ifL (ppB l) (ppC l)) (ppB l) w) := by
  have HR := Lib.hid (fun W hW => readPuzzle_any l hl W hW)
  have HW := Lib.hid hw
  have hlm : (ppC l).length ≤ 2000000 := by have := pcL_len (cu2 58 l); have := cu2_len 58 l; rw [ppC]; omega
  have HT : Hid (∀ lo hi v W, Tab W → PuzAt W lo hi v (ppT l) (ppP l) (ppC l) → Calls Tryd.prog 67 #[v, .func (.func 27) #[] #[], .string (byt l)] W fun e w' => (∃ v', e = .returned (.tuple #[v', .bool (ppB l)]) ∧ PuzAt w' lo hi v' (ifT (ppB l) (ppT l)) (ifT (ppB l) (ppP l)) (ifL (ppB l) (ppC l))) ∧ Below W.heap.size W w') := Lib.hid (fun lo hi v W hT hm => ifToldZ_any lo hi (ppT l) (ppP l) (ppC l) v (byt l) W hlm hT hm)
  generalize ppB l = ok at *
  generalize ifT ok (ppT l) = t2 at *
  generalize ifT ok (ppP l) = p2 at *
  generalize ifL ok (ppC l) = ps2 at *
  generalize ppT l = t at *
  generalize ppP l = p at *
  generalize ppC l = ps at *
  have HB := Lib.hid (below_alloc w (.cells #[.int .i64 0, .int .i64 0, .slice none 0 0] 55))
  have B := Lib.hid (BzF.new w 0 0 (.slice none 0 0) 55 rfl)
  clear hw hlm hl
  go_enter Tryd.func30, Tryd.ntmps30
  go_wp2_with fail
  refine (HR.out _ (HW.out.below HB.out)).mono ?_
  rintro e w1 ⟨v1, rfl, m1, hb1⟩
  have HB1 := Lib.hid (HB.out.trans (hb1.mono HB.out.size))
  have B1 := Lib.hid (B.out.kept hb1)
  have M1 := Lib.hid m1
  obtain ⟨_, a1, c1, rfl, _⟩ := m1
  clear hb1
  go_wp2_with fail
  refine (HT.out _ _ _ _ (HW.out.below HB1.out).tab M1.out).mono ?_
  rintro e w2 ⟨⟨v2, rfl, m2⟩, hb2⟩
  have HB2 := Lib.hid (HB1.out.trans (hb2.mono HB1.out.size))
  have B2 := Lib.hid (B1.out.kept hb2)
  obtain ⟨k0, k1, k2, k3, k4, k5⟩ := B2.out.cells
  have hz1 := B1.out.1.2
  have hz2 := B2.out.1.2
  have M2 := Lib.hid m2
  obtain ⟨_, a3, c3, rfl, _⟩ := m2
  clear hb2
  go_wp2_with fail
  obtain ⟨g0, g1, g2⟩ := put3_cells B2.out t2 p2 (.slice a3 ps2.length c3)
  unfold put3 at g0 g1 g2
  refine bodyPost_ret (v := .tuple #[.agg #[.int .i64 t2, .int .i64 p2, .slice a3 ps2.length c3], .bool ok]) (by simp [results, Tryd.f30, go_sem, g0, g1, g2]) rfl ⟨_, rfl, (M2.out.of (w' := put3 w2 w.heap.size t2 p2 (.slice a3 ps2.length c3)) (by simp [put3]) (fun g h1 h2 => put3_heap _ _ _ _ _ (by simp at h1; omega))).wide (by simp) (by simp; exact M2.out.1) (Nat.le_refl _), ?_⟩
  exact put3_below HB2.out (Nat.le_refl _) _ _ _
end Go.Proofs.YtgobjobppajkbaaDoor
