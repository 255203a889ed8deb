/-
  BEHIND HOW MANY SIGNS A RESIDUE FALLS: 'fallOf', 'isLeft' of the program: a label, jumped back to.
-/
import Derived.Test.YtgobjobppajkbaaDoorWordJ
import Derived.Test.YtgobjobppajkbaaDoorFw
import Derived.ScopeJumps
import Derived.WalkMore
import Derived.Deep.Cut
namespace Go.Proofs.YtgobjobppajkbaaDoor
open Go.RowKit
set_option linter.unusedVariables false

theorem wp_scope_jumps2 {P : Program} {a : Act} {w : World} {Q : Exit → Act → World → Prop} {c body : Code} (l : Nat) (J : Act → World → Prop) (μ : Act → World → Nat) (hf : findLabel c l = some (Code.skip.seq body))
    (pass : ∀ a w, J a w → body.wp P (Exit.jump l (fun a' w' => J a' w' ∧ μ a' w' < μ a w) Q) a w)
    (first : (∀ a w, J a w → body.wp P (Exit.jump l J Q) a w) → c.wp P (Exit.jump l J Q) a w) : (Code.scope c).wp P Q a w :=
  wp_scope_jumps l J μ hf (first (fun a w h => Code.wp_mono (fun e a' w' hq => by
    cases e <;> first | exact hq | exact ⟨hq.1, hq.2.1⟩) (pass a w h))) (fun a w h => wp_seq (wp_skip (pass a w h)))
/-- What holds at every jump. -/
def FbAt (t p r : Int) (w : World) (K g k : Nat) (W : World) : Prop :=
  k ≤ K ∧ fa t p r k = 0 ∧ WalkAt W g t p (itr (sx t p) k r) ∧ W.cell? ⟨w.heap.size, 0, none⟩ = some (.int .i64 t) ∧ W.cell? ⟨w.heap.size, 1, none⟩ = some (.int .i64 p) ∧ w.heap.size < g ∧ Below w.heap.size w W
def FbJ (t p r : Int) (w : World) (K : Nat) (a : Act) (W : World) : Prop :=
  ∃ (g k : Nat) (u1 u4 u5 u6 u10 u11 u12 u13 u14 u15 u16 u17 u18 u19 u20 u21 u22 u23 u24 u25 u26 u27 u28 : Value), a = { tmps := #[.agg #[.int .i64 t, .int .i64 p], u1, .int .i64 (K : Int), .pointer (some ⟨w.heap.size, 0, none⟩), u4, u5, u6, .func (.func 129) #[] #[.pointer (some ⟨g, 0, none⟩)], .int .i64 (k : Int), .int .i64 (od t p r k : Nat), u10, u11, u12, u13, u14, u15, u16, u17, u18, u19, u20, u21, u22, u23, u24, u25, u26, u27, u28], defers := [] } ∧ FbAt t p r w K g k W
def fbMu (K : Nat) (a : Act) (w : World) : Nat := K - (RowKit.intOf (a.tmps.getD 8 undef)).toNat

set_option maxRecDepth 100000 in
set_option maxHeartbeats 4000000 in
theorem fallOf_any (t p r : Int) (K : Nat) (w : World) (hg : goodB t p = true) (hK : K ≤ 15) (hr0 : 0 ≤ r) (hr1 : r ≤ 32768) :
    Calls Tryd.prog 77 #[.agg #[.int .i64 t, .int .i64 p], .int .i64 r, .int .i64 (K : Int)] w fun e w' => e = .returned (.int .i64 (fa t p r K : Nat)) ∧ Below w.heap.size w w' := by
  have HG := Lib.hid hg
  have HR0 := Lib.hid hr0
  have HR1 := Lib.hid hr1
  have HS := Lib.hid (fun w => signsFrom_any t p r w)
  have hK1 : (K : Int) ≤ 15 := by omega
  clear hg hr0 hr1
  go_enter Tryd.func77, Tryd.ntmps77
  go_wp2
  refine wp_scope_jumps2 0 (FbJ t p r w K) (fbMu K) rfl ?_ ?_
  · rintro a W ⟨g, k, u1, u4, u5, u6, u10, u11, u12, u13, u14, u15, u16, u17, u18, u19, u20, u21, u22, u23, u24, u25, u26, u27, u28, rfl, hst⟩
    obtain ⟨hk, hfa, hwk, c0, c1, hgw, hbel⟩ := hst
    have HFA := Lib.hid hfa
    have HB := Lib.hid hbel
    have HWK := Lib.hid hwk
    have hzW : w.heap.size < W.heap.size := by have := hwk.lt; omega
    clear hfa hbel hwk
    by_cases hlt : k = K
    · have HR : Hid (fa t p r K = 0) := Lib.hid (by rw [← hlt]; exact HFA.out)
      have hkk : ((k : Int) == (K : Int)) = true := by simp [hlt]
      have hkk2 : (k : Int) = (K : Int) := by rw [hlt]
      clear hlt
      go_wp2_with fail
      simp only [Exit.jump]
      go_ret
      exact ⟨ret_int (by rw [HR.out]; rfl), HB.out⟩
    · have hkk : ((k : Int) == (K : Int)) = false := by simp; omega
      have hkk2 : ¬ ((k : Int) = (K : Int)) := by omega
      have hsm := itr_small HG.out (t := t) (p := p) (n := r) (k := k) (by omega) HR0.out (by have := HR1.out; omega)
      have his := itr_succ (sx t p) k r
      have hos := od_succ t p r k
      obtain ⟨v, hv⟩ : ∃ v, v = itr (sx t p) k r := ⟨_, rfl⟩
      have hwk := HWK.out
      rw [← hv] at hwk hsm his hos
      have HN := Lib.hid (signsFrom_next t p v g W HG.out (by omega) (by omega) hwk)
      have hol := od_le t p r k
      have HIS := Lib.hid his
      have HF := Lib.hid (fun w => falls_any t p (od t p r (k + 1)) (k + 1) w HG.out (by have := od_le t p r (k + 1); omega) (by omega))
      have HMISS := Lib.hid (fun h => fa_miss HFA.out h)
      have HHIT := Lib.hid (fun h => fa_hit HFA.out h (K := K) (by omega))
      have HK1 : Hid (k + 1 ≤ K) := Lib.hid (by omega)
      have hok : ((od t p r k : Nat) : Int) ≤ 15 := by omega
      have hk15 : (k : Int) ≤ 15 := by omega
      have hgW := hwk.lt
      clear hwk his hlt hsm hv
      cases hpar : (par v == (111 : UInt8))
      all_goals
        first
          | (have hp2 : par v = 111 := by simpa using hpar
             rw [if_pos hp2] at hos
             have hch : ((par v).toNat : Int) = 111 := by rw [hp2]; rfl)
          | (have hp2 : ¬ par v = 111 := by simpa using hpar
             rw [if_neg hp2] at hos
             have hch : ¬ ((par v).toNat : Int) = 111 := by
               intro e; exact hp2 (UInt8.toNat_inj.1 (by have : (111 : UInt8).toNat = 111 := rfl; omega)))
        have HOS := Lib.hid hos
        rw [hos] at HF
        generalize hbp : ((par v).toNat : Int) = bp at HN hch
        clear hpar hp2 hos hbp
        go_wp2_with fail
        refine HN.out.mono ?_
        rintro e w4 ⟨rfl, hwk4, ht4⟩
        have d0 := (ht4.cell (b := w.heap.size) (o := 0) hzW (by omega)).trans c0
        have d1 := (ht4.cell (b := w.heap.size) (o := 1) hzW (by omega)).trans c1
        have HWK4 := Lib.hid hwk4
        have hsz4 := ht4.size
        have HB4 := Lib.hid (HB.out.trans (ht4.below (by omega) HB.out.size))
        clear hwk4 ht4 c0 c1
        cases hfl : fl t (od t p r (k + 1)) (k + 1)
        all_goals
          first
            | (have HEND := Lib.hid (HHIT.out hfl)
               rw [HOS.out] at hfl
               rw [hfl] at HF
               clear hfl
               go_wp2_with fail
               refine (HF.out _).mono ?_
               rintro e w5 ⟨rfl, hb5⟩
               have HB5 := Lib.hid (HB4.out.trans (hb5.mono HB4.out.size))
               clear hb5
               go_wp2_with fail
               simp only [Exit.jump]
               go_ret
               exact ⟨ret_int (by rw [HEND.out]; rfl), HB5.out⟩)
            | (have HEND := Lib.hid (HMISS.out hfl)
               rw [HOS.out] at hfl
               rw [hfl] at HF
               clear hfl
               go_wp2_with fail
               refine (HF.out _).mono ?_
               rintro e w5 ⟨rfl, hb5⟩
               have f0 := kept_cell hb5 (by omega) d0
               have f1 := kept_cell hb5 (by omega) d1
               have hwk5 := HWK4.out.below hb5 HWK4.out.lt
               rw [← HIS.out] at hwk5
               have HB5 := Lib.hid (HB4.out.trans (hb5.mono HB4.out.size))
               have hnew : FbAt t p r w K g (k + 1) w5 := ⟨HK1.out, HEND.out, hwk5, f0, f1, hgw, HB5.out⟩
               clear hb5 d0 d1 f0 f1
               go_wp2_with fail
               go_step3
               exact ⟨rfl, ⟨g, k + 1, _, _, _, _, _, _, _, _, _, _, _, _, _, _, _, _, _, _, _, _, _, _, _, by rw [HOS.out]; rfl, hnew⟩, by simp [fbMu, RowKit.intOf]; omega⟩)

  · intro hp
    go_upto_region 3 with (refine (HS.out _).mono ?_; rintro e w1 ⟨rfl, hwk1, hb1⟩)
    have es : (w.alloc (.cells #[.int .i64 t, .int .i64 p] 27)).heap.size = w.heap.size + 1 := by simp
    have hst : FbAt t p r w K (w.heap.size + 1 + 1) 0 w1 := by
      rw [es] at hb1 hwk1
      refine ⟨Nat.zero_le _, rfl, hwk1, ?_, ?_, by omega, ((Below.refl _ w).alloc (Nat.le_refl _) _).trans (hb1.mono (by omega))⟩
      · exact (hb1.cell (p := ⟨w.heap.size, 0, none⟩) (by simp)).trans (by go_simp)
      · exact (hb1.cell (p := ⟨w.heap.size, 1, none⟩) (by simp)).trans (by go_simp)
    refine wp_label ?_
    refine ‹∀ (a : Act) (w : World), Code.wp _ _ _ a w → _› _ _ ?_
    refine hp _ _ ?_
    exact ⟨w.heap.size + 1 + 1, 0, _, _, _, _, _, _, _, _, _, _, _, _, _, _, _, _, _, _, _, _, _, _, _, rfl, hst⟩

end Go.Proofs.YtgobjobppajkbaaDoor
