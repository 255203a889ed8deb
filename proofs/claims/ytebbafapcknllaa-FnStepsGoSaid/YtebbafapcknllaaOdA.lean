/-
  WHAT IS DRAWN OUT OF A LIST HAS WHAT ALL OF THE LIST HAVE; 'sureMap' gives a map (gen_oda.py, out of XCur).
-/
import Derived.Test.YtebbafapcknllaaDraw
namespace Go.Proofs.Ytebbafapcknllaa
open Go.RowKit
set_option linter.unusedVariables false

def isP (P : Int → Bool) : Value → Bool
  | .int .i64 x => P x
  | _ => false
theorem isP_some {P : Int → Bool} {v : Value} (h : isP P v = true) : ∃ x, v = .int .i64 x ∧ P x = true := by
  unfold isP at h
  split at h
  · exact ⟨_, rfl, h⟩
  · cases h
theorem good_of {t p : Int} (h1 : goodB t 1 = true) (h2 : goodB 1 p = true) : goodB t p = true := by
  unfold goodB at *
  rw [decide_eq_true_eq] at *
  omega
set_option maxRecDepth 100000 in
set_option maxHeartbeats 4000000 in
theorem among_of (P : Int → Bool) (w : World) (g A : Nat) (vs : Array Value) (T : TypeId) (L : Nat) (hL : vs.size = L) (h0 : 0 < L) (h1 : L ≤ 1000) (hv : vs.all (isP P) = true) (hA : A ≤ 900000) (h : Cur w g A) :
    Calls Try.prog 58 #[.pointer (some ⟨g, 0, none⟩), .slice (some ⟨w.heap.size, 0, none⟩) L L] (w.alloc (.cells vs T)) fun e w' => ∃ x : Int, P x = true ∧ e = .returned (.int .i64 x) ∧ Cur w' g (A + 2) ∧ w.grownBy w' (some g) := by
  have hlt := h.lt
  have hcell : ∀ m : Nat, m < L → ∃ x, (w.alloc (.cells vs T)).cell? ⟨w.heap.size, m, none⟩ = some (.int .i64 x) ∧ P x = true := fun m hm => by
    obtain ⟨x, hx, hw⟩ := isP_some (Array.all_eq_true.1 hv m (by omega))
    refine ⟨x, ?_, hw⟩
    rw [← hx]
    go_simp
  have HC0 := Lib.hid (h.kept ((Below.refl w.heap.size w).alloc (Nat.le_refl _) (.cells vs T)) hlt)
  have HP := Lib.hid (fun v (n1 : -1000000000 ≤ v) (n2 : v ≤ 1000000000) => pick_any (w.alloc (.cells vs T)) g A v hA n1 n2 HC0.out)
  have HX := Lib.hid hcell
  have hl1 : (L : Int) ≤ 1000 := by omega
  clear hcell h hv HC0
  go_enter Try.func58, Try.ntmps58
  go_wp2_with fail
  refine (HP.out _ (by omega) (by omega)).mono ?_
  rintro e w1 ⟨v, v0, v1, rfl, hc, hg⟩
  obtain ⟨m, rfl⟩ := Int.eq_ofNat_of_zero_le v0
  obtain ⟨x, hx, hw⟩ := HX.out m (by omega)
  have q := hg.cell hx (fun e => absurd (Option.some.inj e) (Nat.ne_of_gt hlt))
  have hm : (m : Int) < (L : Int) := by omega
  have HW := Lib.hid hw
  have HCC := Lib.hid hc
  have HG := Lib.hid hg
  clear hc hg hx hw v0 v1
  go_wp2
  go_ret
  exact ⟨x, HW.out, rfl, HCC.out, grown_behind_alloc HG.out (by omega)⟩
set_option maxRecDepth 100000 in
set_option maxHeartbeats 4000000 in
theorem sureMap_good (w : World) (g A : Nat) (hA : A ≤ 800000) (h : Cur w g A) :
    Calls Try.prog 56 #[.pointer (some ⟨g, 0, none⟩)] w fun e w' => ∃ t p : Int, goodB t p = true ∧ e = .returned (.agg #[.int .i64 t, .int .i64 p]) ∧ Cur w' g (A + 6) ∧ w.grownBy w' (some g) := by
  have hlt := h.lt
  have S0 := Lib.hid (St.alloc (St.refl h) (.cells #[.int .i64 0, .int .i64 0] 25))
  have B0 := Lib.hid (Box2.new w (.int .i64 0) (.int .i64 0) 25)
  clear h
  go_enter Try.func56, Try.ntmps56
  go_wp2_with fail
  refine (one_any _ g A 2 (by omega) (by omega) (by omega) S0.out.cur).mono ?_
  rintro e w1 ⟨b, rfl, hc, hg⟩
  have S1 := Lib.hid (S0.out.call hc hg)
  have B1 := Lib.hid (B0.out.grown hg hlt)
  clear hc hg S0 B0
  cases b
  · go_wp2_with fail
    refine (among_of (fun x => goodB x 1) _ g _ _ _ 6 rfl (by decide) (by decide) (by kernel_rfl) (by omega) S1.out.cur).mono ?_
    rintro e w2 ⟨x, hx1, rfl, hc, hg⟩
    have HX1 := Lib.hid hx1
    clear hx1
    have S2 := Lib.hid (S1.out.call hc hg)
    have B2 := Lib.hid (B1.out.grown hg hlt)
    clear hc hg S1 B1
    go_wp2_with fail
    refine (among_of (fun x => goodB 1 x) _ g _ _ _ 6 rfl (by decide) (by decide) (by kernel_rfl) (by omega) S2.out.cur).mono ?_
    rintro e w3 ⟨y, hy1, rfl, hc, hg⟩
    have S3 := Lib.hid (S2.out.call hc hg)
    have B3 := Lib.hid (B2.out.grown hg hlt)
    clear hc hg S2 B2
    have HG : Hid (goodB x y = true) := Lib.hid (good_of HX1.out hy1)
    clear HX1 hy1
    obtain ⟨d0, d1, f0, f1, hz⟩ := B3.out
    go_wp2
    have S4 := (S3.out.set (r := w.heap.size) (k := 0) (Nat.le_refl _) hlt (.int .i64 x)).set (r := w.heap.size) (k := 1) (Nat.le_refl _) hlt (.int .i64 y)
    exact bodyPost_ret (v := .agg #[.int .i64 x, .int .i64 y]) (by simp [results, Try.results56, go_sem, d0, d1]) rfl ⟨x, y, HG.out, rfl, S4.cur, S4.gr⟩
  · obtain ⟨d0, d1, f0, f1, hz⟩ := B1.out
    go_wp2
    have S4 := (S1.out.set (r := w.heap.size) (k := 0) (Nat.le_refl _) hlt (.int .i64 3)).set (r := w.heap.size) (k := 1) (Nat.le_refl _) hlt (.int .i64 1)
    exact bodyPost_ret (v := .agg #[.int .i64 3, .int .i64 1]) (by simp [results, Try.results56, go_sem, d0, d1]) rfl ⟨3, 1, by decide, rfl, S4.cur.more (by omega), S4.gr⟩

end Go.Proofs.Ytebbafapcknllaa
