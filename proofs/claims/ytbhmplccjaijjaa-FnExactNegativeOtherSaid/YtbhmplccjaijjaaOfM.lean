/-
  'OtherOfMap' of the model and of the program.
-/
import Derived.Test.YtbhmplccjaijjaaPt
import Derived.Test.YtbhmplccjaijjaaLeafB
namespace Go.Proofs.Ytbhmplccjaijjaa
open Go.RowKit
set_option linter.unusedVariables false

/-- An other map handed back. -/
def RetOth (qs : List Pt) (ok : Bool) (w : World) (e : Ending) (w' : World) : Prop :=
  ∃ v, e = .returned (.tuple #[v, .bool ok]) ∧ OthAt w' w.heap.size w'.heap.size v qs ∧ Below w.heap.size w w'
theorem othAt_nil (w : World) (B : Nat) : OthAt w B w.heap.size (.agg #[.slice none 0 0]) [] := ⟨Nat.le_refl _, none, 0, rfl, fun h => (h rfl).elim⟩
/-- The other map of two parts that goes as a map. -/
def omOf (t p : Int) : List Pt := if goodB t p = true then [(1, 0, 2), (t, p, 1)] else []
theorem omOf_len (t p : Int) : (omOf t p).length ≤ 1048576 := by
  unfold omOf
  split <;> simp
theorem row_two (w : World) (t p : Int) (T : TypeId) : PtRow (w.alloc (.cells #[.int .i64 1, .int .i64 0, .int .i64 2, .int .i64 t, .int .i64 p, .int .i64 1] T)) w.heap.size [(1, 0, 2), (t, p, 1)] := by
  intro j hj
  match j, hj with
  | 0, _ => exact ⟨⟨by go_simp, by go_simp, by go_simp⟩, by go_simp, by go_simp, by go_simp⟩
  | 1, _ => exact ⟨⟨by go_simp, by go_simp, by go_simp⟩, by go_simp, by go_simp, by go_simp⟩

set_option maxHeartbeats 2000000 in
theorem sOtherOfMap (t p : Int) (w : World) :
    Calls Try.prog 41 #[.agg #[.int .i64 t, .int .i64 p]] w (RetOth (omOf t p) (goodB t p) w) := by
  have HG := Lib.hid (fun W => mpGood_any t p W)
  by_cases hg : goodB t p = true
  case neg =>
    have hg' : goodB t p = false := by simpa using hg
    have HL : Hid (omOf t p = []) := Lib.hid (by rw [omOf, hg']; rfl)
    rw [hg'] at HG
    rw [hg', HL.out]
    clear hg hg'
    go_enter Try.func41, Try.ntmps41
    go_wp2_with fail
    refine (HG.out _).mono ?_
    rintro e w1 ⟨rfl, hb1⟩
    obtain ⟨h0, h1⟩ := (show w1.cell? ⟨w.heap.size + 1, 0, none⟩ = some (.slice none 0 0) ∧ w1.frozen? ⟨w.heap.size + 1, 0, none⟩ = false from ⟨(hb1.cell (p := ⟨w.heap.size + 1, 0, none⟩) (by simp)).trans (by go_simp), (hb1.frozen (p := ⟨w.heap.size + 1, 0, none⟩) (by simp)).trans (by go_simp)⟩)
    have hbw : Below w.heap.size w w1 := (((Below.refl _ w).alloc (Nat.le_refl _) (.cells #[.int .i64 t, .int .i64 p] 56)).alloc (by simp) (.cells #[.slice none 0 0] 29)).trans (hb1.mono (by simp; omega))
    have HB1 := Lib.hid hbw
    clear hb1 hbw
    go_wp2_with fail
    refine bodyPost_ret (v := .tuple #[.agg #[.slice none 0 0], .bool false]) (by simp [results, Try.f41, go_sem, h0]) rfl ⟨_, rfl, ⟨Nat.le_refl _, none, 0, rfl, fun h => (h rfl).elim⟩, ?_⟩
    exact HB1.out.setCell (p := ⟨w.heap.size + 1, 0, none⟩) (by simp) _
  case pos =>
    have HL : Hid (omOf t p = [(1, 0, 2), (t, p, 1)]) := Lib.hid (by rw [omOf, if_pos hg])
    rw [hg] at HG
    rw [hg, HL.out]
    clear hg
    go_enter Try.func41, Try.ntmps41
    go_wp2_with fail
    refine (HG.out _).mono ?_
    rintro e w1 ⟨rfl, hb1⟩
    obtain ⟨h0, h1⟩ := (show w1.cell? ⟨w.heap.size + 1, 0, none⟩ = some (.slice none 0 0) ∧ w1.frozen? ⟨w.heap.size + 1, 0, none⟩ = false from ⟨(hb1.cell (p := ⟨w.heap.size + 1, 0, none⟩) (by simp)).trans (by go_simp), (hb1.frozen (p := ⟨w.heap.size + 1, 0, none⟩) (by simp)).trans (by go_simp)⟩)
    obtain ⟨h2, h3⟩ := (show w1.cell? ⟨w.heap.size, 0, none⟩ = some (.int .i64 t) ∧ w1.cell? ⟨w.heap.size, 1, none⟩ = some (.int .i64 p) from ⟨(hb1.cell (p := ⟨w.heap.size, 0, none⟩) (by simp; omega)).trans (by go_simp), (hb1.cell (p := ⟨w.heap.size, 1, none⟩) (by simp; omega)).trans (by go_simp)⟩)
    have hbw : Below w.heap.size w w1 := (((Below.refl _ w).alloc (Nat.le_refl _) (.cells #[.int .i64 t, .int .i64 p] 56)).alloc (by simp) (.cells #[.slice none 0 0] 29)).trans (hb1.mono (by simp; omega))
    have hsz : w.heap.size + 1 < w1.heap.size := by have := hb1.size; simp at this; omega
    have HB1 := Lib.hid hbw
    have hne : ¬ (w.heap.size + 1 = w1.heap.size) := by omega
    have hne2 : ¬ (w1.heap.size = w.heap.size + 1) := by omega
    clear hb1 hbw
    go_wp2_with fail
    have hz0 : (w1.setCell ⟨w.heap.size + 1, 0, none⟩ (.slice (some ⟨w1.heap.size, 0, none⟩) 2 2)).heap.size = w1.heap.size := by simp
    have hbn := below_new (w1.setCell ⟨w.heap.size + 1, 0, none⟩ (.slice (some ⟨w1.heap.size, 0, none⟩) 2 2)) (.cells #[.int .i64 1, .int .i64 0, .int .i64 2, .int .i64 t, .int .i64 p, .int .i64 1] 65)
    have hc := (hbn.cell (p := ⟨w.heap.size + 1, 0, none⟩) (by rw [hz0]; exact hsz)).trans (World.cell?_setCell_same' w1 ⟨w.heap.size + 1, 0, none⟩ (.slice (some ⟨w1.heap.size, 0, none⟩) 2 2) (by rw [h0]; rfl))
    have hr := row_two (w1.setCell ⟨w.heap.size + 1, 0, none⟩ (.slice (some ⟨w1.heap.size, 0, none⟩) 2 2)) t p 65
    rw [hz0] at hr
    refine bodyPost_ret (v := .tuple #[.agg #[.slice (some ⟨w1.heap.size, 0, none⟩) 2 2], .bool true]) (by simp [results, Try.f41, go_sem, hc]) rfl ⟨_, rfl, ⟨Nat.le_refl _, some ⟨w1.heap.size, 0, none⟩, 2, rfl, fun _ => ⟨w1.heap.size, rfl, by omega, by simp, hr⟩⟩, ?_⟩
    exact (HB1.out.setCell (p := ⟨w.heap.size + 1, 0, none⟩) (by simp) _).alloc (by simp; omega) _

set_option maxHeartbeats 2000000 in
theorem iOtherOfMap (t p : Int) (w : World) :
    Calls Try.prog 43 #[.agg #[.int .i64 t, .int .i64 p]] w (RetOth (omOf t p) (goodB t p) w) := by
  have HG := Lib.hid (fun W => isMap_any t p W)
  by_cases hg : goodB t p = true
  case neg =>
    have hg' : goodB t p = false := by simpa using hg
    have HL : Hid (omOf t p = []) := Lib.hid (by rw [omOf, hg']; rfl)
    rw [hg'] at HG
    rw [hg', HL.out]
    clear hg hg'
    go_enter Try.func43, Try.ntmps43
    go_wp2_with fail
    refine (HG.out _).mono ?_
    rintro e w1 ⟨rfl, hb1⟩
    obtain ⟨h0, h1⟩ := (show w1.cell? ⟨w.heap.size + 1, 0, none⟩ = some (.slice none 0 0) ∧ w1.frozen? ⟨w.heap.size + 1, 0, none⟩ = false from ⟨(hb1.cell (p := ⟨w.heap.size + 1, 0, none⟩) (by simp)).trans (by go_simp), (hb1.frozen (p := ⟨w.heap.size + 1, 0, none⟩) (by simp)).trans (by go_simp)⟩)
    have hbw : Below w.heap.size w w1 := (((Below.refl _ w).alloc (Nat.le_refl _) (.cells #[.int .i64 t, .int .i64 p] 56)).alloc (by simp) (.cells #[.slice none 0 0] 29)).trans (hb1.mono (by simp; omega))
    have HB1 := Lib.hid hbw
    clear hb1 hbw
    go_wp2_with fail
    refine bodyPost_ret (v := .tuple #[.agg #[.slice none 0 0], .bool false]) (by simp [results, Try.f43, go_sem, h0]) rfl ⟨_, rfl, ⟨Nat.le_refl _, none, 0, rfl, fun h => (h rfl).elim⟩, ?_⟩
    exact HB1.out.setCell (p := ⟨w.heap.size + 1, 0, none⟩) (by simp) _
  case pos =>
    have HL : Hid (omOf t p = [(1, 0, 2), (t, p, 1)]) := Lib.hid (by rw [omOf, if_pos hg])
    rw [hg] at HG
    rw [hg, HL.out]
    clear hg
    go_enter Try.func43, Try.ntmps43
    go_wp2_with fail
    refine (HG.out _).mono ?_
    rintro e w1 ⟨rfl, hb1⟩
    obtain ⟨h0, h1⟩ := (show w1.cell? ⟨w.heap.size + 1, 0, none⟩ = some (.slice none 0 0) ∧ w1.frozen? ⟨w.heap.size + 1, 0, none⟩ = false from ⟨(hb1.cell (p := ⟨w.heap.size + 1, 0, none⟩) (by simp)).trans (by go_simp), (hb1.frozen (p := ⟨w.heap.size + 1, 0, none⟩) (by simp)).trans (by go_simp)⟩)
    obtain ⟨h2, h3⟩ := (show w1.cell? ⟨w.heap.size, 0, none⟩ = some (.int .i64 t) ∧ w1.cell? ⟨w.heap.size, 1, none⟩ = some (.int .i64 p) from ⟨(hb1.cell (p := ⟨w.heap.size, 0, none⟩) (by simp; omega)).trans (by go_simp), (hb1.cell (p := ⟨w.heap.size, 1, none⟩) (by simp; omega)).trans (by go_simp)⟩)
    have hbw : Below w.heap.size w w1 := (((Below.refl _ w).alloc (Nat.le_refl _) (.cells #[.int .i64 t, .int .i64 p] 56)).alloc (by simp) (.cells #[.slice none 0 0] 29)).trans (hb1.mono (by simp; omega))
    have hsz : w.heap.size + 1 < w1.heap.size := by have := hb1.size; simp at this; omega
    have HB1 := Lib.hid hbw
    have hne : ¬ (w.heap.size + 1 = w1.heap.size) := by omega
    have hne2 : ¬ (w1.heap.size = w.heap.size + 1) := by omega
    clear hb1 hbw
    go_wp2_with fail
    have hz0 : (w1.setCell ⟨w.heap.size + 1, 0, none⟩ (.slice (some ⟨w1.heap.size, 0, none⟩) 2 2)).heap.size = w1.heap.size := by simp
    have hbn := below_new (w1.setCell ⟨w.heap.size + 1, 0, none⟩ (.slice (some ⟨w1.heap.size, 0, none⟩) 2 2)) (.cells #[.int .i64 1, .int .i64 0, .int .i64 2, .int .i64 t, .int .i64 p, .int .i64 1] 65)
    have hc := (hbn.cell (p := ⟨w.heap.size + 1, 0, none⟩) (by rw [hz0]; exact hsz)).trans (World.cell?_setCell_same' w1 ⟨w.heap.size + 1, 0, none⟩ (.slice (some ⟨w1.heap.size, 0, none⟩) 2 2) (by rw [h0]; rfl))
    have hr := row_two (w1.setCell ⟨w.heap.size + 1, 0, none⟩ (.slice (some ⟨w1.heap.size, 0, none⟩) 2 2)) t p 65
    rw [hz0] at hr
    refine bodyPost_ret (v := .tuple #[.agg #[.slice (some ⟨w1.heap.size, 0, none⟩) 2 2], .bool true]) (by simp [results, Try.f43, go_sem, hc]) rfl ⟨_, rfl, ⟨Nat.le_refl _, some ⟨w1.heap.size, 0, none⟩, 2, rfl, fun _ => ⟨w1.heap.size, rfl, by omega, by simp, hr⟩⟩, ?_⟩
    exact (HB1.out.setCell (p := ⟨w.heap.size + 1, 0, none⟩) (by simp) _).alloc (by simp; omega) _
end Go.Proofs.Ytbhmplccjaijjaa
