/-
  'pzClue', 'pzGood', 'IsClue', 'IsPuzzle' of the model; rows of clues wherever they lie.
-/
import Derived.Test.YtgobjobppajkbaaDoorCl
import Derived.Deep.RegionWith
namespace Go.Proofs.YtgobjobppajkbaaDoor
open Go.RowKit
set_option linter.unusedVariables false

/-- A row of clues that can be read, wherever it lies. -/
def ClIn (w : World) (a : Option Addr) (ps : List Pt) : Prop := ∀ j, j < ps.length → ∃ b off, a = some ⟨b, off, none⟩ ∧ b < w.heap.size ∧ PtCell w b (off + j * 3) (ps.getD j pt0)
theorem ClIn.kept {w w' : World} {a : Option Addr} {ps : List Pt} {n : Nat} (h : ClIn w a ps) (hb : Below n w w') (hn : w.heap.size ≤ n) : ClIn w' a ps := by
  intro j hj
  obtain ⟨b, off, rfl, hlt, hc⟩ := h j hj
  exact ⟨b, off, rfl, Nat.lt_of_lt_of_le hlt hb.size, hc.of (hb.block b (Nat.lt_of_lt_of_le hlt hn))⟩
theorem ClIn.keep {w w' : World} {a : Option Addr} {ps : List Pt} (h : ClIn w a ps) (hb : Below w.heap.size w w') : ClIn w' a ps := h.kept hb (Nat.le_refl _)
theorem ClIn.grow {w : World} {a : Option Addr} {ps : List Pt} (h : ClIn w a ps) (X : Obj) : ClIn (w.alloc X) a ps := h.keep (below_new w X)
theorem ClIn.take {w : World} {a : Option Addr} {ps : List Pt} (h : ClIn w a ps) (k : Nat) : ClIn w a (ps.take k) := by
  intro j hj
  rw [List.length_take] at hj
  obtain ⟨b, off, rfl, hlt, hc⟩ := h j (by omega)
  refine ⟨b, off, rfl, hlt, ?_⟩
  rw [List.getD_eq_getElem?_getD, List.getElem?_take_of_lt (by omega), ← List.getD_eq_getElem?_getD]
  exact hc
theorem ClIn.nil (w : World) (a : Option Addr) : ClIn w a [] := fun j hj => by simp at hj
theorem PRow.cl {w : World} {lo hi : Nat} {a : Option Addr} {ps : List Pt} (h : PRow w lo hi a ps) (hh : hi ≤ w.heap.size) : ClIn w a ps := by
  intro j hj
  obtain ⟨g, rfl, h1, h2, h3⟩ := h (by rintro rfl; simp at hj)
  exact ⟨g, 0, rfl, by omega, by rw [Nat.zero_add]; exact (h3 j hj).1⟩
/-- A puzzle that can be read, wherever its clues lie. -/
def PzIn (w : World) (v : Value) (t p : Int) (ps : List Pt) : Prop := ∃ a cap, v = .agg #[.int .i64 t, .int .i64 p, .slice a ps.length cap] ∧ ps.length ≤ cap ∧ cap ≤ maxLen ∧ ClIn w a ps
theorem PzIn.kept {w w' : World} {v : Value} {t p : Int} {ps : List Pt} (h : PzIn w v t p ps) (hb : Below w.heap.size w w') : PzIn w' v t p ps := by
  obtain ⟨a, c, rfl, h1, h2, h3⟩ := h
  exact ⟨a, c, rfl, h1, h2, h3.keep hb⟩

theorem clB_zero (a b : Int) : clB (0, a, b) = (inB a 2 12 && inB b 0 (a - 1)) := by simp [clB, aIn, bIn]
theorem clB_some {k a b : Int} (hk : k ≠ 0) : clB (k, a, b) = (inB a 0 20 && bIn k a b) := by simp [clB, aIn, hk]

set_option maxHeartbeats 2000000 in
theorem pzClue_any (k a b : Int) (w : World) :
    Calls Tryd.prog 93 #[.agg #[.int .i64 k, .int .i64 a, .int .i64 b]] w fun e w' => e = .returned (.bool (clB (k, a, b))) ∧ Below w.heap.size w w' := by
  have HB := Lib.hid (fun X => (Below.refl w.heap.size w).alloc (Nat.le_refl _) X)
  by_cases hk : k = 0
  · subst hk
    have HE := Lib.hid (clB_zero a b)
    cases hA : inB a 2 12
    · rw [hA] at HE
      go_enter Tryd.func93, Tryd.ntmps93
      go_wp2_with (go_at_call 72; refine (l1In_any _ _ _ _).mono ?_; rintro e w' ⟨rfl, rfl⟩)
      go_ret
      exact ⟨ret_bool HE.out.symm, HB.out _⟩
    · rw [hA] at HE
      have h1 : 2 ≤ a ∧ a ≤ 12 := by simpa [inB] using hA
      obtain ⟨h1, h2⟩ := h1
      go_enter Tryd.func93, Tryd.ntmps93
      go_wp2_with (go_at_call 72; refine (l1In_any _ _ _ _).mono ?_; rintro e w' ⟨rfl, rfl⟩)
      go_ret
      exact ⟨ret_bool (by rw [HE.out]; simp), HB.out _⟩
  · have HE := Lib.hid (clB_some (a := a) (b := b) hk)
    have hk0 : (k == 0) = false := by simpa using hk
    cases hA : inB a 0 20
    · rw [hA] at HE
      go_enter Tryd.func93, Tryd.ntmps93
      go_wp2_with (go_at_call 72; refine (l1In_any _ _ _ _).mono ?_; rintro e w' ⟨rfl, rfl⟩)
      go_ret
      exact ⟨ret_bool (by rw [HE.out]; rfl), HB.out _⟩
    · rw [hA] at HE
      by_cases h1 : k = 1
      · subst h1
        go_enter Tryd.func93, Tryd.ntmps93
        go_wp2_with (first | (go_at_call 72; refine (l1In_any _ _ _ _).mono ?_; rintro e w' ⟨rfl, rfl⟩) | (go_at_call 124; refine (mpIs_any _ _).mono ?_; rintro e w' ⟨rfl, rfl⟩))
        go_ret
        exact ⟨ret_bool (by rw [HE.out]; simp [bIn]), HB.out _⟩
      by_cases h3 : k = 3
      · subst h3
        go_enter Tryd.func93, Tryd.ntmps93
        go_wp2_with (first | (go_at_call 72; refine (l1In_any _ _ _ _).mono ?_; rintro e w' ⟨rfl, rfl⟩) | (go_at_call 124; refine (mpIs_any _ _).mono ?_; rintro e w' ⟨rfl, rfl⟩))
        go_ret
        exact ⟨ret_bool (by rw [HE.out]; simp [bIn]), HB.out _⟩
      by_cases h2 : k = 2
      · subst h2
        go_enter Tryd.func93, Tryd.ntmps93
        go_wp2_with (first | (go_at_call 72; refine (l1In_any _ _ _ _).mono ?_; rintro e w' ⟨rfl, rfl⟩) | (go_at_call 124; refine (mpIs_any _ _).mono ?_; rintro e w' ⟨rfl, rfl⟩))
        go_ret
        exact ⟨ret_bool (by rw [HE.out]; simp [bIn]), HB.out _⟩
      by_cases h4 : k = 4
      · subst h4
        go_enter Tryd.func93, Tryd.ntmps93
        go_wp2_with (first | (go_at_call 72; refine (l1In_any _ _ _ _).mono ?_; rintro e w' ⟨rfl, rfl⟩) | (go_at_call 124; refine (mpIs_any _ _).mono ?_; rintro e w' ⟨rfl, rfl⟩))
        go_ret
        exact ⟨ret_bool (by rw [HE.out]; simp [bIn]), HB.out _⟩
      have HN : Hid (bIn k a b = false) := Lib.hid (by simp [bIn, hk, h1, h2, h3, h4])
      have e1 : (k == 1) = false := by simpa using h1
      have e2 : (k == 2) = false := by simpa using h2
      have e3 : (k == 3) = false := by simpa using h3
      have e4 : (k == 4) = false := by simpa using h4
      go_enter Tryd.func93, Tryd.ntmps93
      go_wp2_with (first | (go_at_call 72; refine (l1In_any _ _ _ _).mono ?_; rintro e w' ⟨rfl, rfl⟩) | (go_at_call 124; refine (mpIs_any _ _).mono ?_; rintro e w' ⟨rfl, rfl⟩))
      go_ret
      exact ⟨ret_bool (by rw [HE.out, HN.out]; rfl), HB.out _⟩

end Go.Proofs.YtgobjobppajkbaaDoor
