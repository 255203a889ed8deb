/-
  'LoopResidues' of the program.
-/
import Derived.Test.YtpfclanblcngfaaRrU
import Derived.Test.YtpfclanblcngfaaRrI
namespace Go.Proofs.Ytpfclanblcngfaa
open Go.RowKit Go.Maps
set_option linter.unusedVariables false

/-- The boxes of the map and of the modulus. -/
def BoxMq (B C : Nat) (t p k : Int) (W : World) : Prop := W.cell? ⟨B, 0, none⟩ = some (.int .i64 t) ∧ W.cell? ⟨B, 1, none⟩ = some (.int .i64 p) ∧ W.cell? ⟨C, 0, none⟩ = some (.int .i64 k)
theorem BoxMq.below {B C N : Nat} {t p k : Int} {W W' : World} (h : BoxMq B C t p k W) (hb : Below N W W') (h1 : B < N) (h2 : C < N) : BoxMq B C t p k W' :=
  ⟨(hb.cell (p := ⟨B, 0, none⟩) h1).trans h.1, (hb.cell (p := ⟨B, 1, none⟩) h1).trans h.2.1, (hb.cell (p := ⟨C, 0, none⟩) h2).trans h.2.2⟩
theorem box_mq {w w1 : World} {t p k : Int} (hb1 : Below ((w.alloc (.cells #[.int .i64 t, .int .i64 p] 27)).alloc (.cells #[.int .i64 k] 3)).heap.size ((w.alloc (.cells #[.int .i64 t, .int .i64 p] 27)).alloc (.cells #[.int .i64 k] 3)) w1) :
    BoxMq w.heap.size (w.heap.size + 1) t p k w1 ∧ w.heap.size + 1 < w1.heap.size ∧ Below w.heap.size w w1 := by
  have es : ((w.alloc (.cells #[.int .i64 t, .int .i64 p] 27)).alloc (.cells #[.int .i64 k] 3)).heap.size = w.heap.size + 2 := by simp
  have hs := hb1.size
  rw [es] at hb1 hs
  refine ⟨⟨?_, ?_, ?_⟩, by omega, (((Below.refl _ w).alloc (Nat.le_refl _) _).alloc (by simp) _).trans (hb1.mono (by omega))⟩
  · exact (hb1.cell (p := ⟨w.heap.size, 0, none⟩) (by dsimp only; omega)).trans (by go_simp)
  · exact (hb1.cell (p := ⟨w.heap.size, 1, none⟩) (by dsimp only; omega)).trans (by go_simp)
  · exact (hb1.cell (p := ⟨w.heap.size + 1, 0, none⟩) (by dsimp only; omega)).trans (by go_simp)
theorem part_two (w : World) (a b : Int) : PartV (w.alloc (.cells #[.int .i64 a, .int .i64 b] 39)) (.slice (some ⟨w.heap.size, 0, none⟩) 2 2) [a, b] := by
  refine ⟨w.heap.size, 0, 2, rfl, by simp, by simp, by unfold maxLen; omega, fun j u hu => ?_⟩
  rw [addr_add, Nat.zero_add]
  have hj : j < 2 := by have := (List.getElem?_eq_some_iff.1 hu).1; simpa using this
  have : j = 0 ∨ j = 1 := by omega
  rcases this with rfl | rfl
  · rw [← hu]; go_simp
  · rw [← hu]; go_simp

set_option maxRecDepth 100000 in
set_option maxHeartbeats 4000000 in
theorem loop1 (t p x : Int) (K B C : Nat) (W : World) (hg : goodB t p = true) (hm1 : 1 ≤ K) (hm2 : K ≤ 60) (x0 : 0 ≤ x) (x1 : x < (K : Int)) (hbox : BoxMq B C t p K W) (hB : B < W.heap.size) (hC : C < W.heap.size) :
    Calls Try.prog 36 #[.int .i64 x, .pointer (some ⟨B, 0, none⟩), .pointer (some ⟨C, 0, none⟩)] W fun e W' => e = .returned (.bool (isL t p K x)) ∧ Below W.heap.size W W' := by
  have HN := Lib.hid (fun w => residuesBehind_any t p K x w hg (by omega) (by omega) x0 x1)
  have HRE := Lib.hid (fun w v (hv : PartV w v [nb t p K x 0, nb t p K x 1]) => reachedFrom_any t p K v [nb t p K x 0, nb t p K x 1] w hg hm1 hm2 (fun y hy => by
    simp at hy
    rcases hy with rfl | rfl <;> exact nb_range (by omega)) (by simp) hv)
  have HIS : Hid (∀ xs : List Int, (∀ y, y ∈ xs ↔ Rch t p K [nb t p K x 0, nb t p K x 1] y) → decide (x ∈ xs) = isL t p K x) := Lib.hid (fun xs h => by unfold isL; exact decide_eq_decide.2 (h x))
  have hwf : (Lit.int .i64 x).wf = true := small_wf x0 (by omega)
  obtain ⟨c0, c1, c2⟩ := hbox
  obtain ⟨a0, h0⟩ : ∃ a, nb t p K x 0 = a := ⟨_, rfl⟩
  obtain ⟨a1, h1⟩ : ∃ a, nb t p K x 1 = a := ⟨_, rfl⟩
  rw [h0, h1] at HN HRE HIS
  clear hg h0 h1
  go_enter Try.func36, Try.ntmps36
  go_wp2_with fail
  refine (HN.out _).mono ?_
  rintro e w1 ⟨rfl, hb1⟩
  have d0 := kept_cell hb1 hB c0
  have d1 := kept_cell hb1 hB c1
  have d2 := kept_cell hb1 hC c2
  have hB1 := Nat.lt_of_lt_of_le hB hb1.size
  have hC1 := Nat.lt_of_lt_of_le hC hb1.size
  have HB1 := Lib.hid hb1
  clear hb1 c0 c1 c2
  go_wp2_with fail
  go_region_law (go_simp; go_at_call 30; refine (HRE.out _ _ (by first | exact part_two w1 a0 a1 | exact (part_two w1 a0 a1).kept (Below.refl _ _).drew)).mono ?_; rintro e w2 ⟨b, xs, rfl, hset, hx, hb1, hb2, hbel⟩; have hlook := (hset.isIn (by omega)).look hwf; rw [HIS.out xs hx] at hlook; have HBL := Lib.hid hbel; clear hset hx hb1 hb2 hbel)
  all_goals
    have HB2 : Hid (Below W.heap.size W w2) := by
      first
        | exact Lib.hid (HB1.out.trans (((Below.refl W.heap.size w1).alloc HB1.out.size _).trans (HBL.out.mono (Nat.le_trans HB1.out.size (by simp)))))
        | exact Lib.hid (HB1.out.trans ((((Below.refl W.heap.size w1).alloc HB1.out.size _).drew).trans (HBL.out.mono (Nat.le_trans HB1.out.size (by simp)))))
    clear d0 d1 d2 hB1 hC1
    go_wp2_with fail
    go_ret
    exact ⟨rfl, HB2.out⟩

set_option maxRecDepth 100000 in
set_option maxHeartbeats 4000000 in
theorem iLoopResidues (t p M : Int) (w : World) :
    Calls Try.prog 18 #[.agg #[.int .i64 t, .int .i64 p], .int .i64 M] w (RetInts (loA t p M) (askN t p M) w) := by
  have HM := Lib.hid (fun w => isMap_any t p w)
  have HI := Lib.hid (fun w => isModulus_any M w)
  cases hg : goodB t p
  · have HA : Hid (askN t p M = false) := Lib.hid (by rw [askN, hg]; rfl)
    have HY := Lib.hid (loA_no HA.out)
    rw [hg] at HM
    clear hg
    go_enter Try.func18, Try.ntmps18
    go_wp2_with fail
    refine (HM.out _).mono ?_
    rintro e w1 ⟨rfl, hb1⟩
    obtain ⟨⟨c0, c1, c2⟩, hz, hb⟩ := box_mq hb1
    clear hb1
    go_wp2_with fail
    go_ret2
    exact retI_none HY.out HA.out hb
  · rw [hg] at HM
    cases hm : inB M 1 60
    · have HA : Hid (askN t p M = false) := Lib.hid (by rw [askN, hm]; simp)
      have HY := Lib.hid (loA_no HA.out)
      rw [hm] at HI
      clear hg hm
      go_enter Try.func18, Try.ntmps18
      go_wp2_with fail
      refine (HM.out _).mono ?_
      rintro e w1 ⟨rfl, hb1⟩
      obtain ⟨⟨c0, c1, c2⟩, hz, hb⟩ := box_mq hb1
      clear hb1
      go_wp2_with (go_at_call 31; refine (HI.out _).mono ?_; rintro e w' ⟨rfl, rfl⟩)
      go_ret2
      exact retI_none HY.out HA.out hb
    · have HA : Hid (askN t p M = true) := Lib.hid (by rw [askN, hg, hm]; rfl)
      obtain ⟨hm1, hm2⟩ : 1 ≤ M ∧ M ≤ 60 := by simpa [inB] using hm
      rw [hm] at HI
      obtain ⟨K, rfl⟩ : ∃ K : Nat, M = (K : Int) := ⟨M.toNat, by omega⟩
      have HY : Hid (loA t p K = loL t p K K) := Lib.hid (by rw [loA, if_pos HA.out]; rfl)
      have HG := Lib.hid hg
      have HU := Lib.hid (fun w => countUp_any 0 K ((K : Int) - 1) w (by omega) (by omega) (by omega) (by omega))
      clear hg hm
      go_enter Try.func18, Try.ntmps18
      go_wp2_with fail
      refine (HM.out _).mono ?_
      rintro e w1 ⟨rfl, hb1⟩
      obtain ⟨⟨c0, c1, c2⟩, hz, hb⟩ := box_mq hb1
      have HB := Lib.hid hb
      clear hb1 hb
      go_wp2_with (go_at_call 31; refine (HI.out _).mono ?_; rintro e w' ⟨rfl, rfl⟩)
      refine (HU.out _).mono ?_
      rintro e w2 ⟨v, rfl, hrow, hb2⟩
      have HX : Hid (BoxMq w.heap.size (w.heap.size + 1) t p K w2) := Lib.hid (BoxMq.below ⟨c0, c1, c2⟩ hb2 (by omega) (by omega))
      have HB2 := Lib.hid (HB.out.trans (hb2.mono HB.out.size))
      have HR := Lib.hid hrow
      have hsz2 := hb2.size
      have HZ2 := Lib.hid (show w.heap.size + 1 < w2.heap.size by omega)
      clear hb2 hrow c0 c1 c2 hsz2
      go_wp2_with fail
      refine (sieve_any 36 #[.pointer (some ⟨w.heap.size, 0, none⟩), .pointer (some ⟨w.heap.size + 1, 0, none⟩)] (upL 0 K) (fun x => isL t p K x) (fun _ W => BoxMq w.heap.size (w.heap.size + 1) t p K W) 0 0 v w2 w1.heap.size
        (enters_of Try.func36 (by kernel_rfl) rfl) (by rw [upL_length]; omega) HR.out (Nat.zero_le _) (Nat.zero_le _) (Nat.le_refl _)
        (fun j W W' h hs hb => h.below hb (by have := HZ2.out; omega) HZ2.out) HX.out
        (fun j W hj h hs => ?_)).mono ?_
      · rw [upL_length] at hj
        rw [upL_at _ hj]
        have hs1 := HZ2.out
        refine (loop1 t p _ K _ _ W HG.out (by omega) (by omega) (by omega) (by omega) h (by omega) (by omega)).mono ?_
        rintro e W' ⟨he, hb⟩
        exact ⟨he, h.below hb (by omega) (by omega), Touch.of_below hb⟩
      · rintro e w3 ⟨v3, rfl, hrow3, _, ht3⟩
        go_wp2_with fail
        go_ret2
        rw [HA.out, HY.out]
        exact ⟨_, rfl, ownsRow_base hrow3 HB2.out.size, HB2.out.trans (touch00 ht3 HB2.out.size)⟩
end Go.Proofs.Ytpfclanblcngfaa
