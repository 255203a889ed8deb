/-
  'omParse' of the model at any text; 'ParseOther' of the model.
-/
import Derived.Test.YtgobjobppajkbaaDoorOpS
namespace Go.Proofs.YtgobjobppajkbaaDoor
open Go.RowKit
set_option linter.unusedVariables false

/-- What the model tells. -/
def mrO (l : List UInt8) : List Pt := if oqF l = true then oqL l else []
def mzO (l : List UInt8) : List Pt := if oqB l = true then oqL l else []
theorem oqB_F {l : List UInt8} (h : oqB l = true) : oqF l = true := by rw [oqB, Bool.and_eq_true] at h; exact h.1
theorem retO_no {l : List UInt8} {w : World} (h : oqF l = false) : RetO (mrO l) (oqB l) w = RetO [] false w := by
  rw [mrO, oqB, h]; simp
theorem retO_yes {l : List UInt8} {w : World} (h : oqF l = true) : RetO (mrO l) (oqB l) w = RetO (oqL l) (omB (oqL l) && decide (otX (oqL l) = byt l)) w := by
  rw [mrO, oqB, h]; simp
theorem omParse_any (l : List UInt8) (w : World) :
    Calls Tryd.prog 49 #[.string (byt l)] w (RetO (mrO l) (oqB l) w) := by
  by_cases h1 : l.length ≤ 120
  · have h := omParse_short l (by omega) w
    cases hq : oqT (spl 59 l) with
    | true =>
      rw [RetOq.ok hq] at h
      rw [retO_yes (by rw [oqF, decide_eq_true h1, hq]; rfl)]
      exact h
    | false =>
      rw [RetOq.bad hq] at h
      rw [retO_no (by rw [oqF, hq, Bool.and_false])]
      exact h
  · rw [retO_no (by rw [oqF, decide_eq_false h1]; rfl)]
    exact omParse_long l (by omega) w

set_option maxHeartbeats 2000000 in
theorem sParseOther (l : List UInt8) (w : World) :
    Calls Tryd.prog 19 #[.string (byt l)] w (RetO (mzO l) (oqB l) w) := by
  have HM := Lib.hid (fun W => omParse_any l W)
  have e : oqB l = true → mrO l = mzO l := fun h => by rw [mrO, mzO, if_pos (oqB_F h), if_pos h]
  have e2 : oqB l = false → mzO l = [] := fun h => by rw [mzO, h]; rfl
  cases hq : oqB l with
  | true =>
    rw [hq, e hq] at HM
    generalize mzO l = qs at *
    clear e e2 hq
    have HR := Lib.hid (BoF.new w (.slice none 0 0) 42 rfl)
    have HB := Lib.hid (below_new w (.cells #[.slice none 0 0] 42))
    go_enter Tryd.func19, Tryd.ntmps19
    go_wp2_with fail
    refine (HM.out _).mono ?_
    rintro e w1 ⟨v1, rfl, m1, hb1⟩
    have M1 := Lib.hid m1
    obtain ⟨hh, a, c, rfl, _⟩ := m1
    have hz1 := hb1.size
    have HB1 := Lib.hid ((HB.out.trans (hb1.mono HB.out.size)).trans ((below_new w1 (.cells #[.slice a qs.length c] 42)).mono (Nat.le_trans HB.out.size hb1.size)))
    have HR1 := Lib.hid ((HR.out.kept hb1).kept (below_new w1 (.cells #[.slice a qs.length c] 42)))
    have M2 := Lib.hid (M1.out.kept (below_new w1 (.cells #[.slice a qs.length c] 42)))
    obtain ⟨r0, f0⟩ := HR1.out.cells
    have hRl := HR1.out.1.2
    have hne : ¬ w1.heap.size = w.heap.size := by simp at hz1; omega
    have hne2 : ¬ w.heap.size = w1.heap.size := by simp at hz1; omega
    clear hb1
    go_wp2_with fail
    have g0 := (HR1.out.set (.slice a qs.length c)).1.1
    refine bodyPost_ret (v := .tuple #[.agg #[.slice a qs.length c], .bool true]) (by simp [results, Tryd.f19, go_sem, g0]) rfl ⟨_, rfl, (M2.out.of (w' := (w1.alloc (.cells #[.slice a qs.length c] 42)).setCell ⟨w.heap.size, 0, none⟩ (.slice a qs.length c)) (by simp) (fun g h1 h2 => setO_heap _ _ _ (by simp at h1; omega))).wide (by simp) (by simp) (Nat.le_refl _), ?_⟩
    exact HB1.out.setCell (p := ⟨w.heap.size, 0, none⟩) (Nat.le_refl _) _
  | false =>
    rw [hq] at HM
    rw [e2 hq]
    generalize mrO l = qs at *
    clear e e2 hq
    have HR := Lib.hid (BoF.new w (.slice none 0 0) 42 rfl)
    have HB := Lib.hid (below_new w (.cells #[.slice none 0 0] 42))
    go_enter Tryd.func19, Tryd.ntmps19
    go_wp2_with fail
    refine (HM.out _).mono ?_
    rintro e w1 ⟨v1, rfl, m1, hb1⟩
    have M1 := Lib.hid m1
    obtain ⟨hh, a, c, rfl, _⟩ := m1
    have hz1 := hb1.size
    have HB1 := Lib.hid ((HB.out.trans (hb1.mono HB.out.size)).trans ((below_new w1 (.cells #[.slice a qs.length c] 42)).mono (Nat.le_trans HB.out.size hb1.size)))
    have HR1 := Lib.hid ((HR.out.kept hb1).kept (below_new w1 (.cells #[.slice a qs.length c] 42)))
    obtain ⟨r0, f0⟩ := HR1.out.cells
    have hRl := HR1.out.1.2
    have hne : ¬ w1.heap.size = w.heap.size := by simp at hz1; omega
    have hne2 : ¬ w.heap.size = w1.heap.size := by simp at hz1; omega
    clear hb1
    go_wp2_with fail
    have g0 := (HR1.out.set (.slice none 0 0)).1.1
    refine bodyPost_ret (v := .tuple #[.agg #[.slice none 0 0], .bool false]) (by simp [results, Tryd.f19, go_sem, g0]) rfl ⟨_, rfl, othAt_none (Nat.le_refl _), ?_⟩
    exact HB1.out.setCell (p := ⟨w.heap.size, 0, none⟩) (Nat.le_refl _) _
end Go.Proofs.YtgobjobppajkbaaDoor
