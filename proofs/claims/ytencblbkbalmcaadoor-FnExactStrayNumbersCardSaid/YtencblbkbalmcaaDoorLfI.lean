/-
  'LeftResidues', 'SieveUpTo' of the program.
-/
import Derived.Test.YtencblbkbalmcaaDoorLfR
import Derived.Shelf.Abstract
namespace Go.Proofs.YtencblbkbalmcaaDoor
open Go.RowKit
set_option linter.unusedVariables false

/-- The boxes of the map and of the power. -/
def BoxMP (B C : Nat) (t p k : Int) (W : World) : Prop := W.cell? ⟨B, 0, none⟩ = some (.int .i64 t) ∧ W.cell? ⟨B, 1, none⟩ = some (.int .i64 p) ∧ W.cell? ⟨C, 0, none⟩ = some (.int .i64 k)
theorem BoxMP.below {B C N : Nat} {t p k : Int} {W W' : World} (h : BoxMP B C t p k W) (hb : Below N W W') (h1 : B < N) (h2 : C < N) : BoxMP B C t p k W' :=
  ⟨(hb.cell (p := ⟨B, 0, none⟩) h1).trans h.1, (hb.cell (p := ⟨B, 1, none⟩) h1).trans h.2.1, (hb.cell (p := ⟨C, 0, none⟩) h2).trans h.2.2⟩

theorem leftRes1 (t p r : Int) (K B C : Nat) (W : World) (hg : goodB t p = true) (hK : K ≤ 12) (hr0 : 0 ≤ r) (hr1 : r ≤ 32768) (hbox : BoxMP B C t p K W) :
    Calls Tryd.prog 54 #[.int .i64 r, .pointer (some ⟨B, 0, none⟩), .pointer (some ⟨C, 0, none⟩)] W fun e W' => e = .returned (.bool (decide (fa t p r K = 0))) ∧ Below W.heap.size W W' := by
  have HL := Lib.hid (fun w => isLeft_any t p r K w hg (by omega) hr0 hr1)
  generalize decide (fa t p r K = 0) = b at HL ⊢
  obtain ⟨c0, c1, c2⟩ := hbox
  clear hg
  go_enter Tryd.func54, Tryd.ntmps54
  go_wp2_with fail
  refine (HL.out _).mono ?_
  rintro e w1 ⟨rfl, hb1⟩
  go_wp2_with fail
  go_ret
  exact ⟨rfl, hb1⟩
set_option maxHeartbeats 4000000 in
theorem sieveUp1 (t p n : Int) (K B C : Nat) (W : World) (hg : goodB t p = true) (hK : K ≤ 12) (htab : Tab W) (hbox : BoxMP B C t p K W) :
    Calls Tryd.prog 68 #[.int .i64 n, .pointer (some ⟨B, 0, none⟩), .pointer (some ⟨C, 0, none⟩)] W fun e W' => e = .returned (.bool (decide (fa t p n K = 0))) ∧ Below W.heap.size W W' := by
  obtain ⟨pw1, pw0⟩ := pow2_le (k := K) (by omega)
  have r0 := Int.emod_nonneg n (show (2 : Int) ^ K ≠ 0 by omega)
  have r1 := Int.emod_lt_of_pos n pw0
  have HL := Lib.hid (fun w => isLeft_any t p (n % 2 ^ K) K w hg (by omega) r0 (by omega))
  rw [fa_mod hg n (Nat.le_refl K)] at HL
  have HR := Lib.hid (fun w h => residueOf_any n K (by omega) w h)
  have HT : Hid (Tab W.drew) := Lib.hid (tab_drew htab)
  have HT0 := Lib.hid htab
  generalize decide (fa t p n K = 0) = b at HL ⊢
  generalize n % 2 ^ K = r at HL HR
  obtain ⟨c0, c1, c2⟩ := hbox
  clear hg r0 r1 pw1 pw0 htab
  go_enter Tryd.func68, Tryd.ntmps68
  go_wp2_with fail
  go_region_with (first
    | (go_at_call 63; refine (HR.out _ (by first | exact HT.out | exact HT0.out)).mono ?_; rintro e w' ⟨rfl, rfl⟩)
    | (go_at_call 55; refine (HL.out _).mono ?_; rintro e w3 ⟨rfl, hb3⟩))
  all_goals
    go_wp2_with fail
    go_ret
    exact ⟨rfl, by first | exact (Below.refl _ W).drew.trans (hb3.mono (by simp)) | exact hb3⟩
theorem tab_touch {W W' : World} (h : Tab W) (ht : Below W.heap.size W W') : Tab W' := tab_below h ht (Nat.le_refl _)
theorem tab_below2 {w2 W W' : World} {N : Nat} (h2 : Tab w2) (h : Tab W) (hb : Below N W W') (hN : w2.heap.size ≤ N := by exact Nat.le_refl _) : Tab W' := by
  have hl := tab_lt h2
  unfold Tab Lib.TabIs World.var? at h ⊢
  rw [gPow] at h ⊢
  simp only [Option.bind_some] at h ⊢
  rw [hb.block _ (by omega)]
  exact h
theorem touch00 {A B : World} {n : Nat} (h : Touch 0 0 A B) (hn : n ≤ A.heap.size) : Below n A B := ⟨h.os, h.tape, h.output, h.size, fun k hk => h.block k (by omega) (.inr (Nat.zero_le _))⟩
theorem box_mp {w w1 : World} {t p k : Int} (hb1 : Below ((w.alloc (.cells #[.int .i64 t, .int .i64 p] 26)).alloc (.cells #[.int .i64 k] 3)).heap.size ((w.alloc (.cells #[.int .i64 t, .int .i64 p] 26)).alloc (.cells #[.int .i64 k] 3)) w1) :
    BoxMP w.heap.size (w.heap.size + 1) t p k w1 ∧ w.heap.size + 1 < w1.heap.size ∧ Below w.heap.size w w1 := by
  have es : ((w.alloc (.cells #[.int .i64 t, .int .i64 p] 26)).alloc (.cells #[.int .i64 k] 3)).heap.size = w.heap.size + 2 := by simp
  have hs := hb1.size
  rw [es] at hb1 hs
  refine ⟨⟨?_, ?_, ?_⟩, by omega, (((Below.refl _ w).alloc (Nat.le_refl _) _).alloc (by simp) _).trans (hb1.mono (by omega))⟩
  · exact (hb1.cell (p := ⟨w.heap.size, 0, none⟩) (by dsimp only; omega)).trans (by go_simp)
  · exact (hb1.cell (p := ⟨w.heap.size, 1, none⟩) (by dsimp only; omega)).trans (by go_simp)
  · exact (hb1.cell (p := ⟨w.heap.size + 1, 0, none⟩) (by dsimp only; omega)).trans (by go_simp)
theorem isSieveLimit_any (k : Int) (w : World) :
    Calls Tryd.prog 66 #[.int .i64 k] w fun e w' => e = .returned (.bool (inB k 0 2000)) ∧ w = w' := by
  by_cases h1 : 0 ≤ k <;> by_cases h2 : k ≤ 2000
  all_goals
    go_enter Tryd.func66, Tryd.ntmps66
    go_wp2
    go_ret
    simp [inB, *]

set_option maxRecDepth 100000 in
set_option maxHeartbeats 4000000 in
theorem iLeftResidues (t p k : Int) (w : World) (htab : Tab w) :
    Calls Tryd.prog 22 #[.agg #[.int .i64 t, .int .i64 p], .int .i64 k] w (RetInts (lrA t p k) (goodB t p && inB k 0 12) w) := by
  have HM := Lib.hid (fun w => isMap_any t p w)
  have HP := Lib.hid (fun w => isPower_any k w)
  have HT := Lib.hid htab
  clear htab
  cases hg : goodB t p
  · rw [hg] at HM
    have HA : Hid ((goodB t p && inB k 0 12) = false) := Lib.hid (by simp [hg])
    have HY : Hid (lrA t p k = []) := Lib.hid (by rw [lrA, if_neg (by rw [HA.out]; simp)])
    clear hg
    go_enter Tryd.func22, Tryd.ntmps22
    go_wp2_with fail
    refine (HM.out _).mono ?_
    rintro e w1 ⟨rfl, hb1⟩
    obtain ⟨⟨c0, c1, c2⟩, hz, hb⟩ := box_mp hb1
    clear hb1
    go_wp2_with fail
    go_ret2
    exact retI_none HY.out (by first | rfl | exact HA.out) hb
    
  · rw [hg] at HM
    cases hk : inB k 0 12
    · rw [hk] at HP
      have HA : Hid ((goodB t p && inB k 0 12) = false) := Lib.hid (by simp [hk])
      have HY : Hid (lrA t p k = []) := Lib.hid (by rw [lrA, if_neg (by rw [HA.out]; simp)])
      clear hg hk
      go_enter Tryd.func22, Tryd.ntmps22
      go_wp2_with fail
      refine (HM.out _).mono ?_
      rintro e w1 ⟨rfl, hb1⟩
      obtain ⟨⟨c0, c1, c2⟩, hz, hb⟩ := box_mp hb1
      clear hb1
      go_wp2_with (first | (go_at_call 50; refine (HP.out _).mono ?_; rintro e w' ⟨rfl, rfl⟩))
      go_ret2
      exact retI_none HY.out (by first | rfl | exact HA.out) hb
      
    · rw [hk] at HP
      obtain ⟨K, rfl, hK⟩ := inB_nat hk
      have HA : Hid ((goodB t p && inB (K : Int) 0 12) = true) := Lib.hid (by rw [hg, hk]; rfl)
      have HY : Hid (lrA t p K = lrL t p K 0 (2 ^ K)) := Lib.hid (by rw [lrA, if_pos HA.out]; rfl)
      obtain ⟨pw1, pw0⟩ := pow2_le (k := K) (by omega)
      have hNN : ((2 : Int) ^ K) = ((2 ^ K : Nat) : Int) := by simp
      have hn4 := pow2N (K := K) (by omega)
      obtain ⟨n, hN⟩ : ∃ n : Nat, n = 2 ^ K := ⟨_, rfl⟩
      rw [← hN] at hNN HY hn4
      have HU := Lib.hid (fun w => countUp_any 0 n ((2 : Int) ^ K - 1) w (by omega) (by omega) (by omega) (by omega))
      have HG := Lib.hid hg
      have hn : (n : Int) ≤ 4096 := by omega
      have HN := Lib.hid hn
      have hK12 : K ≤ 12 := by omega
      have HKK := Lib.hid hK12
      have hki : (K : Int) < 16 := by omega
      have hki2 : K < 16 := by omega
      clear hg hk hN hn4 hK12 hNN hn
      go_enter Tryd.func22, Tryd.ntmps22
      go_wp2_with fail
      refine (HM.out _).mono ?_
      rintro e w1 ⟨rfl, hb1⟩
      obtain ⟨⟨c0, c1, c2⟩, hz, hb⟩ := box_mp hb1
      have HB := Lib.hid hb
      have HT1 := Lib.hid (tab_below HT.out hb (Nat.le_refl _))
      have q := tab_at HT1.out (k := K) (by have := HKK.out; omega)
      clear hb1 hb
      go_wp2_with (first | (go_at_call 50; refine (HP.out _).mono ?_; rintro e w' ⟨rfl, rfl⟩))
      refine (HU.out _).mono ?_
      rintro e w2 ⟨v, rfl, hrow, hb2⟩
      have HX : Hid (BoxMP w.heap.size (w.heap.size + 1) t p K w2) := Lib.hid (BoxMP.below ⟨c0, c1, c2⟩ hb2 (by omega) (by omega))
      have HT2 := Lib.hid (tab_below HT1.out hb2 (Nat.le_refl _))
      have HB2 := Lib.hid (HB.out.trans (hb2.mono HB.out.size))
      have HR := Lib.hid hrow
      have hsz2 := hb2.size
      have HZ2 := Lib.hid (show w.heap.size + 1 < w2.heap.size by omega)
      have HZ1 := Lib.hid hz
      clear hb2 hrow c0 c1 c2 hsz2 hz q
      go_wp2_with fail
      refine (sieve_any 54 #[.pointer (some ⟨w.heap.size, 0, none⟩), .pointer (some ⟨w.heap.size + 1, 0, none⟩)] (upL 0 n) (fun x => decide (fa t p x K = 0)) (fun _ W => BoxMP w.heap.size (w.heap.size + 1) t p K W ∧ Tab W) 0 0 v w2 w1.heap.size
        (enters_of Tryd.func54 (by kernel_rfl) rfl) (by rw [upL_length]; have := HN.out; omega) HR.out (Nat.zero_le _) (Nat.zero_le _) (Nat.le_refl _)
        (fun j W W' h hs hb => ⟨h.1.below hb (by have := HZ2.out; omega) HZ2.out, tab_below2 HT2.out h.2 hb⟩) ⟨HX.out, HT2.out⟩
        (fun j W hj h hs => ?_)).mono ?_
      · rw [upL_length] at hj
        rw [upL_at _ hj]
        have hs1 := HZ2.out
        refine (leftRes1 t p _ K _ _ W HG.out HKK.out (by omega) (by have := HN.out; omega) h.1).mono ?_
        rintro e W' ⟨he, hb⟩
        exact ⟨he, ⟨h.1.below hb (by omega) (by omega), tab_below h.2 hb (Nat.le_refl _)⟩, Touch.of_below hb⟩
      · rintro e w3 ⟨v3, rfl, hrow3, _, ht3⟩
        have hb3 := ht3.below (n := w.heap.size) (A := w2) (B := w3)
        go_wp2_with fail
        go_ret2
        rw [HY.out]
        exact ⟨_, rfl, ownsRow_base hrow3 HB2.out.size, HB2.out.trans (touch00 ht3 HB2.out.size)⟩


set_option maxRecDepth 100000 in
set_option maxHeartbeats 4000000 in
theorem iSieveUpTo (t p k m : Int) (w : World) (htab : Tab w) :
    Calls Tryd.prog 36 #[.agg #[.int .i64 t, .int .i64 p], .int .i64 k, .int .i64 m] w (RetInts (suA t p k m) (askS t p k m) w) := by
  have HM := Lib.hid (fun w => isMap_any t p w)
  have HP := Lib.hid (fun w => isPower_any k w)
  have HI := Lib.hid (fun w => isSieveLimit_any m w)
  have HT := Lib.hid htab
  clear htab
  cases hg : goodB t p
  · rw [hg] at HM
    have HA : Hid ((askS t p k m) = false) := Lib.hid (by rw [askS]; simp [hg])
    have HY : Hid (suA t p k m = []) := Lib.hid (by rw [suA, if_neg (by rw [HA.out]; simp)])
    clear hg
    go_enter Tryd.func36, Tryd.ntmps36
    go_wp2_with fail
    refine (HM.out _).mono ?_
    rintro e w1 ⟨rfl, hb1⟩
    obtain ⟨⟨c0, c1, c2⟩, hz, hb⟩ := box_mp hb1
    clear hb1
    go_wp2_with fail
    go_ret2
    exact retI_none HY.out (by first | rfl | exact HA.out) hb
    
  · rw [hg] at HM
    cases hk : inB k 0 12
    · rw [hk] at HP
      have HA : Hid ((askS t p k m) = false) := Lib.hid (by rw [askS]; simp [hk])
      have HY : Hid (suA t p k m = []) := Lib.hid (by rw [suA, if_neg (by rw [HA.out]; simp)])
      clear hg hk
      go_enter Tryd.func36, Tryd.ntmps36
      go_wp2_with fail
      refine (HM.out _).mono ?_
      rintro e w1 ⟨rfl, hb1⟩
      obtain ⟨⟨c0, c1, c2⟩, hz, hb⟩ := box_mp hb1
      clear hb1
      go_wp2_with (first | (go_at_call 50; refine (HP.out _).mono ?_; rintro e w' ⟨rfl, rfl⟩) | (go_at_call 66; refine (HI.out _).mono ?_; rintro e w' ⟨rfl, rfl⟩))
      go_ret2
      exact retI_none HY.out (by first | rfl | exact HA.out) hb
      
    · rw [hk] at HP
      cases hm : inB m 0 2000
      · rw [hm] at HI
        have HA : Hid ((askS t p k m) = false) := Lib.hid (by rw [askS]; simp [hm])
        have HY : Hid (suA t p k m = []) := Lib.hid (by rw [suA, if_neg (by rw [HA.out]; simp)])
        clear hg hk hm
        go_enter Tryd.func36, Tryd.ntmps36
        go_wp2_with fail
        refine (HM.out _).mono ?_
        rintro e w1 ⟨rfl, hb1⟩
        obtain ⟨⟨c0, c1, c2⟩, hz, hb⟩ := box_mp hb1
        clear hb1
        go_wp2_with (first | (go_at_call 50; refine (HP.out _).mono ?_; rintro e w' ⟨rfl, rfl⟩) | (go_at_call 66; refine (HI.out _).mono ?_; rintro e w' ⟨rfl, rfl⟩))
        go_ret2
        exact retI_none HY.out (by first | rfl | exact HA.out) hb
        
      · rw [hm] at HI
        obtain ⟨K, rfl, hK⟩ := inB_nat hk
        obtain ⟨n, rfl, hn⟩ := inB_nat hm
        have HA : Hid (askS t p K n = true) := Lib.hid (by rw [askS, hg, hk, hm]; rfl)
        have HY : Hid (suA t p K n = lrL t p K 1 n) := Lib.hid (by rw [suA, if_pos HA.out]; rfl)
        have HG := Lib.hid hg
        have HU := Lib.hid (fun w => countUp_any 1 n (n : Int) w (by omega) (by omega) (by omega) (by omega))
        have HN := Lib.hid hn
        have hK12 : K ≤ 12 := by omega
        have HKK := Lib.hid hK12
        clear hg hk hm hK12
        go_enter Tryd.func36, Tryd.ntmps36
        go_wp2_with fail
        refine (HM.out _).mono ?_
        rintro e w1 ⟨rfl, hb1⟩
        obtain ⟨⟨c0, c1, c2⟩, hz, hb⟩ := box_mp hb1
        have HB := Lib.hid hb
        have HT1 := Lib.hid (tab_below HT.out hb (Nat.le_refl _))

        clear hb1 hb
        go_wp2_with (first | (go_at_call 50; refine (HP.out _).mono ?_; rintro e w' ⟨rfl, rfl⟩) | (go_at_call 66; refine (HI.out _).mono ?_; rintro e w' ⟨rfl, rfl⟩))
        refine (HU.out _).mono ?_
        rintro e w2 ⟨v, rfl, hrow, hb2⟩
        have HX : Hid (BoxMP w.heap.size (w.heap.size + 1) t p K w2) := Lib.hid (BoxMP.below ⟨c0, c1, c2⟩ hb2 (by omega) (by omega))
        have HT2 := Lib.hid (tab_below HT1.out hb2 (Nat.le_refl _))
        have HB2 := Lib.hid (HB.out.trans (hb2.mono HB.out.size))
        have HR := Lib.hid hrow
        have hsz2 := hb2.size
        have HZ2 := Lib.hid (show w.heap.size + 1 < w2.heap.size by omega)
        have HZ1 := Lib.hid hz
        clear hb2 hrow c0 c1 c2 hsz2 hz 
        go_wp2_with fail
        refine (sieve_any 68 #[.pointer (some ⟨w.heap.size, 0, none⟩), .pointer (some ⟨w.heap.size + 1, 0, none⟩)] (upL 1 n) (fun x => decide (fa t p x K = 0)) (fun _ W => BoxMP w.heap.size (w.heap.size + 1) t p K W ∧ Tab W) 0 0 v w2 w1.heap.size
          (enters_of Tryd.func68 (by kernel_rfl) rfl) (by rw [upL_length]; have := HN.out; omega) HR.out (Nat.zero_le _) (Nat.zero_le _) (Nat.le_refl _)
          (fun j W W' h hs hb => ⟨h.1.below hb (by have := HZ2.out; omega) HZ2.out, tab_below2 HT2.out h.2 hb⟩) ⟨HX.out, HT2.out⟩
          (fun j W hj h hs => ?_)).mono ?_
        · rw [upL_length] at hj
          rw [upL_at _ hj]
          have hs1 := HZ2.out
          refine (sieveUp1 t p _ K _ _ W HG.out HKK.out h.2 h.1).mono ?_
          rintro e W' ⟨he, hb⟩
          exact ⟨he, ⟨h.1.below hb (by omega) (by omega), tab_below h.2 hb (Nat.le_refl _)⟩, Touch.of_below hb⟩
        · rintro e w3 ⟨v3, rfl, hrow3, _, ht3⟩
          have hb3 := ht3.below (n := w.heap.size) (A := w2) (B := w3)
          go_wp2_with fail
          go_ret2
          rw [HA.out, HY.out]
          exact ⟨_, rfl, ownsRow_base hrow3 HB2.out.size, HB2.out.trans (touch00 ht3 HB2.out.size)⟩


theorem lrA_len (t p k : Int) : (lrA t p k).length ≤ 1000000000000 := by
  unfold lrA
  split
  · rename_i h
    have h12 : k.toNat ≤ 12 := by simp [inB] at h; omega
    exact Nat.le_trans (lrL_len _ _ _ _ _) (Nat.le_trans (pow2N h12) (by decide))
  · simp
theorem suA_len (t p k m : Int) : (suA t p k m).length ≤ 1000000000000 := by
  unfold suA
  split
  · rename_i h
    have hm : m.toNat ≤ 2000 := by simp [askS, inB] at h; omega
    exact Nat.le_trans (lrL_len _ _ _ _ _) (Nat.le_trans hm (by decide))
  · simp
end Go.Proofs.YtencblbkbalmcaaDoor
