/-
  'StrayNumbers' of the program.
-/
import Derived.Test.YtencblbkbalmcaaDoorLfI
import Derived.Test.YtencblbkbalmcaaDoorKpI
import Derived.Test.YtencblbkbalmcaaDoorStS
namespace Go.Proofs.YtencblbkbalmcaaDoor
open Go.RowKit
set_option linter.unusedVariables false

/-- The box of what was told. -/
def BoxT (D : Nat) (b : Bool) (W : World) : Prop := W.cell? ⟨D, 0, none⟩ = some (.bool b) ∧ W.frozen? ⟨D, 0, none⟩ = false
theorem BoxT.below {D N : Nat} {b : Bool} {W W' : World} (h : BoxT D b W) (hb : Below N W W') (h1 : D < N) : BoxT D b W' :=
  ⟨(hb.cell (p := ⟨D, 0, none⟩) h1).trans h.1, (hb.frozen (p := ⟨D, 0, none⟩) h1).trans h.2⟩

set_option maxRecDepth 100000 in
set_option maxHeartbeats 2000000 in
theorem stray1 (t p x : Int) (K B C D : Nat) (b : Bool) (W : World) (htab : Tab W) (hg : goodB t p = true) (hx : numB x = true) (h1 : 1 ≤ x) (hK : K ≤ 12) (hbox : BoxMP B C t p K W) (hbt : BoxT D b W) (hD : D < W.heap.size) :
    Calls Tryd.prog 67 #[.int .i64 x, .pointer (some ⟨B, 0, none⟩), .pointer (some ⟨C, 0, none⟩), .pointer (some ⟨D, 0, none⟩)] W fun e W' => e = .returned (.bool (!(kp t p x K).1)) ∧ BoxT D (b && (kp t p x K).2) W' ∧ Touch D (D + 1) W W' := by
  have HK := Lib.hid (iKeepsToResidue_yes t p x K W htab hg hx h1 hK)
  have HD := Lib.hid hD
  obtain ⟨c0, c1, c2⟩ := hbox
  obtain ⟨d0, d1⟩ := hbt
  generalize (kp t p x K).1 = r1 at HK ⊢
  generalize (kp t p x K).2 = r2 at HK ⊢
  clear htab hg hx h1 hK hD
  go_enter Tryd.func67, Tryd.ntmps67
  go_wp2_with fail
  refine HK.out.mono ?_
  rintro e w1 ⟨rfl, hb1⟩
  have e0 := (hb1.cell (p := ⟨D, 0, none⟩) HD.out).trans d0
  have e1 := (hb1.frozen (p := ⟨D, 0, none⟩) HD.out).trans d1
  have HB := Lib.hid hb1
  clear hb1 c0 c1 c2 d0 d1
  have hfin : ∀ b' : Bool, BoxT D b' (w1.setCell ⟨D, 0, none⟩ (.bool b')) ∧ Touch D (D + 1) W (w1.setCell ⟨D, 0, none⟩ (.bool b')) := fun b' =>
    ⟨⟨by go_simp, by rw [World.frozen?_setCell]; exact e1⟩, (Touch.of_below HB.out).setCell (p := ⟨D, 0, none⟩) (Nat.le_refl _) (Nat.lt_succ_self _) _⟩
  have HF := Lib.hid hfin
  clear hfin
  cases b
  · cases r1
    all_goals
      go_wp2_with fail
      go_ret
      exact ⟨rfl, HF.out _⟩
  · cases r1
    all_goals
      go_wp2_with fail
      go_ret
      exact ⟨rfl, HF.out _⟩

set_option maxRecDepth 100000 in
set_option maxHeartbeats 4000000 in
theorem iStrayNumbers (t p k m : Int) (w : World) (htab : Tab w) :
    Calls Tryd.prog 34 #[.agg #[.int .i64 t, .int .i64 p], .int .i64 k, .int .i64 m] w (RetInts (stA t p k m) (stB t p k m) w) := by
  have HM := Lib.hid (fun w => isMap_any t p w)
  have HP := Lib.hid (fun w => isPower_any k w)
  have HI := Lib.hid (fun w => isSieveLimit_any m w)
  have HT := Lib.hid htab
  clear htab
  cases hg : goodB t p
  · rw [hg] at HM
    have HA : Hid (stB t p k m = false) := Lib.hid (by rw [stB, askT, hg]; rfl)
    have HY := Lib.hid (stA_no HA.out)
    clear hg
    go_enter Tryd.func34, Tryd.ntmps34
    go_wp2_with fail
    refine (HM.out _).mono ?_
    rintro e w1 ⟨rfl, hb1⟩
    obtain ⟨⟨c0, c1, c2⟩, hz, hb⟩ := box_mp hb1
    clear hb1
    go_wp2_with fail
    go_ret2
    exact retI_none HY.out HA.out hb
  · rw [hg] at HM
    cases hk : inB k 0 12
    · rw [hk] at HP
      have HA : Hid (stB t p k m = false) := Lib.hid (by rw [stB, askT, hk]; simp)
      have HY := Lib.hid (stA_no HA.out)
      clear hg hk
      go_enter Tryd.func34, Tryd.ntmps34
      go_wp2_with fail
      refine (HM.out _).mono ?_
      rintro e w1 ⟨rfl, hb1⟩
      obtain ⟨⟨c0, c1, c2⟩, hz, hb⟩ := box_mp hb1
      clear hb1
      go_wp2_with (first | (go_at_call 50; refine (HP.out _).mono ?_; rintro e w' ⟨rfl, rfl⟩) | (go_at_call 66; refine (HI.out _).mono ?_; rintro e w' ⟨rfl, rfl⟩))
      go_ret2
      exact retI_none HY.out HA.out hb
    · rw [hk] at HP
      obtain ⟨K, rfl, hK⟩ := inB_nat hk
      by_cases hk0 : K = 0
      · have h0' : ((K : Int) == 0) = true := by simp [hk0]
        have HA : Hid (stB t p K m = false) := Lib.hid (by rw [stB, askT]; simp [hk0])
        have HY := Lib.hid (stA_no HA.out)
        clear hg hk hk0 hK
        go_enter Tryd.func34, Tryd.ntmps34
        go_wp2_with fail
        refine (HM.out _).mono ?_
        rintro e w1 ⟨rfl, hb1⟩
        obtain ⟨⟨c0, c1, c2⟩, hz, hb⟩ := box_mp hb1
        clear hb1
        go_wp2_with (first | (go_at_call 50; refine (HP.out _).mono ?_; rintro e w' ⟨rfl, rfl⟩) | (go_at_call 66; refine (HI.out _).mono ?_; rintro e w' ⟨rfl, rfl⟩))
        go_ret2
        exact retI_none HY.out HA.out hb
      · have h0' : ((K : Int) == 0) = false := by simp; omega
        have h0i : ¬ ((K : Int) = 0) := by omega
        cases hm : inB m 0 2000
        · rw [hm] at HI
          have HA : Hid (stB t p K m = false) := Lib.hid (by rw [stB, askT, hm]; simp)
          have HY := Lib.hid (stA_no HA.out)
          clear hg hk hm hk0 hK
          go_enter Tryd.func34, Tryd.ntmps34
          go_wp2_with fail
          refine (HM.out _).mono ?_
          rintro e w1 ⟨rfl, hb1⟩
          obtain ⟨⟨c0, c1, c2⟩, hz, hb⟩ := box_mp hb1
          clear hb1
          go_wp2_with (first | (go_at_call 50; refine (HP.out _).mono ?_; rintro e w' ⟨rfl, rfl⟩) | (go_at_call 66; refine (HI.out _).mono ?_; rintro e w' ⟨rfl, rfl⟩))
          go_ret2
          exact retI_none HY.out HA.out hb
        · rw [hm] at HI
          obtain ⟨n, rfl, hn⟩ := inB_nat hm
          have HASK : Hid (stB t p K n = stOk t p K n) := Lib.hid (by rw [stB, askT, hg, hk, hm]; simp; exact fun _ => hk0)
          have HYES : Hid (stOk t p K n = true → stA t p K n = (upL 1 n).filter fun x => !(kp t p x K).1) := Lib.hid (fun h => by rw [stA, if_pos (by rw [HASK.out]; exact h)]; rfl)
          have HNOA : Hid (stOk t p K n = false → stA t p K n = []) := Lib.hid (fun h => stA_no (by rw [HASK.out]; exact h))
          have HG := Lib.hid hg
          have HU := Lib.hid (fun w => countUp_any 1 n (n : Int) w (by omega) (by omega) (by omega) (by omega))
          have HN := Lib.hid hn
          have hK12 : K ≤ 12 := by omega
          have HKK := Lib.hid hK12
          clear hg hk hm hK12 hk0 hK
          go_enter Tryd.func34, Tryd.ntmps34
          go_wp2_with fail
          refine (HM.out _).mono ?_
          rintro e w1 ⟨rfl, hb1⟩
          obtain ⟨⟨c0, c1, c2⟩, hz, hb⟩ := box_mp hb1
          have HB := Lib.hid hb
          have HT1 := Lib.hid (tab_below HT.out hb (Nat.le_refl _))
          clear hb1 hb
          go_wp2_with (first | (go_at_call 50; refine (HP.out _).mono ?_; rintro e w' ⟨rfl, rfl⟩) | (go_at_call 66; refine (HI.out _).mono ?_; rintro e w' ⟨rfl, rfl⟩))
          refine (HU.out _).mono ?_
          rintro e w2 ⟨v, rfl, hrow, hb2⟩
          have es : (w1.alloc (.cells #[.bool true] 4)).heap.size = w1.heap.size + 1 := by simp
          have hb1' : Below w1.heap.size w1 w2 := ((Below.refl _ w1).alloc (Nat.le_refl _) _).trans (hb2.mono (by rw [es]; omega))
          have HX : Hid (BoxMP w.heap.size (w.heap.size + 1) t p K w2) := Lib.hid (BoxMP.below ⟨c0, c1, c2⟩ hb1' (by omega) hz)
          have HXT : Hid (BoxT w1.heap.size true w2) := Lib.hid ⟨kept_cell hb2 (by simp) (by go_simp), kept_free hb2 (by simp) (by go_simp)⟩
          have HT2 := Lib.hid (tab_below HT1.out hb1' (Nat.le_refl _))
          have HB2 := Lib.hid (HB.out.trans (hb1'.mono HB.out.size))
          have HR := Lib.hid hrow
          have hsz2 := hb2.size
          rw [es] at hsz2
          have HZ2 := Lib.hid hsz2
          have HZ1 := Lib.hid hz
          clear hb2 hrow c0 c1 c2 hsz2 hz es hb1'
          go_wp2_with fail
          refine (sieve_any 67 #[.pointer (some ⟨w.heap.size, 0, none⟩), .pointer (some ⟨w.heap.size + 1, 0, none⟩), .pointer (some ⟨w1.heap.size, 0, none⟩)] (upL 1 n) (fun x => !(kp t p x K).1)
            (fun j W => BoxMP w.heap.size (w.heap.size + 1) t p K W ∧ Tab W ∧ BoxT w1.heap.size (stOk t p K j) W) w1.heap.size (w1.heap.size + 1) v w2 _
            (enters_of Tryd.func67 (by kernel_rfl) rfl) (by rw [upL_length]; have := HN.out; omega) HR.out (by simp) HZ2.out (Nat.le_succ _)
            (fun j W W' h hs hb => ⟨h.1.below hb (by have := HZ2.out; have := HZ1.out; omega) (by have := HZ2.out; have := HZ1.out; omega), tab_below2 HT2.out h.2.1 hb, h.2.2.below hb (by have := HZ2.out; omega)⟩) ⟨HX.out, HT2.out, HXT.out⟩
            (fun j W hj h hs => ?_)).mono ?_
          · rw [upL_length] at hj
            rw [upL_at _ hj, stOk_succ]
            have hs1 := HZ2.out
            have hs0 := HZ1.out
            refine (stray1 t p _ K _ _ _ _ W h.2.1 HG.out (numB_iff.2 ⟨by omega, by have := HN.out; omega⟩) (by omega) HKK.out h.1 h.2.2 (by omega)).mono ?_
            rintro e W' ⟨he, hbt, ht⟩
            have hbb := ht.below (n := w1.heap.size) (Nat.le_refl _) (by omega)
            exact ⟨he, ⟨h.1.below hbb (by omega) (by omega), tab_below2 HT1.out h.2.1 hbb, hbt⟩, ht⟩
          · rintro e w3 ⟨v3, rfl, hrow3, hj3, ht3⟩
            have hb3 := ht3.below (n := w1.heap.size) (Nat.le_refl _) (by have := HZ2.out; omega)
            have HB3 := Lib.hid (HB2.out.trans (hb3.mono HB.out.size))
            obtain ⟨_, _, d0, d1⟩ := hj3
            rw [upL_length] at d0
            have HR3 := Lib.hid hrow3
            clear ht3 hb3 d1 hrow3
            cases hok : stOk t p K n
            · rw [hok] at d0
              have HF := Lib.hid (HNOA.out hok)
              have HF2 : Hid (stB t p K n = false) := Lib.hid (by rw [HASK.out]; exact hok)
              clear hok
              go_wp2_with fail
              go_ret2
              exact retI_none HF.out HF2.out HB3.out
            · rw [hok] at d0
              have HF := Lib.hid (HYES.out hok)
              have HF2 : Hid (stB t p K n = true) := Lib.hid (by rw [HASK.out]; exact hok)
              clear hok
              go_wp2_with fail
              go_ret2
              rw [HF.out, HF2.out]
              exact ⟨_, rfl, ownsRow_base HR3.out (by have := HB2.out.size; omega), HB3.out⟩
end Go.Proofs.YtencblbkbalmcaaDoor
