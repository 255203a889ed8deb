/-
  'fallingPatterns' of the program, 'CountFalling' of both.
-/
import Derived.Test.YtencblbkbalmcaaDoorOnes
import Derived.Test.YtencblbkbalmcaaDoorFw
import Derived.Test.YtencblbkbalmcaaDoorBig
import Derived.Test.YtencblbkbalmcaaDoorIntRows
import Derived.OwnWalk
import Derived.WalkLawsBesides
import Derived.Deep.RegionWith
namespace Go.Proofs.YtencblbkbalmcaaDoor
open Go.RowKit
set_option linter.unusedVariables false

/-- Does a word with so many odd ones and this length fall? -/
def fls (t : Int) (L : Nat) (i : Nat) : Bool := fl t i L
/-- The patterns of the falling words. -/
def ptL (t : Int) (L n : Nat) : List Int := (pats (fls t L) n).map fun (x : Nat) => (x : Int)
theorem ptL_length (t : Int) (L n : Nat) : (ptL t L n).length = (pats (fls t L) n).length := by simp [ptL]
theorem ptL_yes {t : Int} {L n : Nat} (h : fls t L (pop n) = true) : ptL t L (n + 1) = ptL t L n ++ [(n : Int)] := by
  unfold ptL; rw [pats_succ, if_pos h, List.map_append]; rfl
theorem ptL_no {t : Int} {L n : Nat} (h : fls t L (pop n) = false) : ptL t L (n + 1) = ptL t L n := by
  unfold ptL; rw [pats_succ, if_neg (by simp [h]), List.append_nil]
/-- A list of integers is handed back. -/
def RetL (xs : List Int) (w : World) (e : Ending) (w' : World) : Prop := ∃ v, e = .returned v ∧ IntsAt w' w.heap.size v xs ∧ Below w.heap.size w w'
theorem info3p : (Tryd.prog.info? 3).map (fun i => (i.zero, i.size, i.bytes)) = some (some (.int .i64 0), 1, 8) := by kernel_rfl

set_option maxRecDepth 100000 in
set_option maxHeartbeats 4000000 in
theorem fallPats_any (t p : Int) (L : Nat) (w : World) (hg : goodB t p = true) (hL : L ≤ 15) (htab : Tab w) :
    Calls Tryd.prog 42 #[.agg #[.int .i64 t, .int .i64 p], .int .i64 (L : Int)] w (RetL (ptL t L (2 ^ L)) w) := by
  have HG := Lib.hid hg
  have HT := Lib.hid htab
  obtain ⟨pw1, pw0⟩ := pow2_le hL
  have hL1 : (L : Int) ≤ 15 := by omega
  have hL2 : (L : Int) < 16 := by omega
  have hL3 : L < 16 := by omega
  have qt0 := tab_at (tab_below HT.out ((Below.refl _ w).alloc (Nat.le_refl _) (.cells #[.int .i64 t, .int .i64 p] 26)) (Nat.le_refl _)) hL
  have hNN : ((2 : Int) ^ L) = ((2 ^ L : Nat) : Int) := by simp
  obtain ⟨N, hN⟩ : ∃ N : Nat, N = 2 ^ L := ⟨_, rfl⟩
  rw [← hN] at hNN ⊢
  rw [hNN] at qt0 pw1
  have hN1 : N ≤ 32768 := by omega
  have HNL := Lib.hid hN
  obtain ⟨i0, hi, hi0, hi1, hi2⟩ := info_parts info3p
  clear hg htab pw0 hNN hN
  go_enter Tryd.func42, Tryd.ntmps42
  go_wp2_with fail
  go_loopw [5, 10] (fun v x wr => ∃ j : Nat, j ≤ N ∧ x = .int .i64 j ∧ wr.ownsRow (w.heap.size + 1) 3 1 v (ptL t L j).length ((ptL t L j).map (Value.int .i64)) ∧ wr.cell? ⟨w.heap.size, 0, none⟩ = some (.int .i64 t) ∧ wr.cell? ⟨w.heap.size, 1, none⟩ = some (.int .i64 p) ∧ w.heap.size < wr.heap.size ∧ Below w.heap.size w wr) (fun _ x _ => N - (intOf x).toNat)
  case atStart => exact ⟨0, by omega, rfl, World.ownsRow_nil _ _ _ _, by go_simp, by go_simp, by simp, (Below.refl _ _).alloc (Nat.le_refl _) _⟩
  case round =>
    obtain ⟨j, hj, rfl, hown, c0, c1, hz, hbr⟩ := hrel
    have HO := Lib.hid hown
    have HBR := Lib.hid hbr
    have hlen : (ptL t L j).length ≤ 32768 := by rw [ptL_length]; have := pats_len_le (fls t L) j; omega
    clear hown hbr
    by_cases hlt : j < N
    · have hjN : (j : Int) < (N : Int) := by omega
      have hpop : pop j ≤ 15 := pop_le (L := 15) (by omega) (by omega)
      have H1 := Lib.hid (fun w => ones_any j (by omega) w)
      have H2 := Lib.hid (fun w => falls_any t p (pop j) L w HG.out (by omega) (by omega))
      have hwj : IntKind.u64.wrap (j : Int) = (j : Int) := by rw [IntKind.wrap_u64]; omega
      have HYES := Lib.hid (fun h => ptL_yes (t := t) (L := L) (n := j) h)
      have HNO := Lib.hid (fun h => ptL_no (t := t) (L := L) (n := j) h)
      have hfl : fls t L (pop j) = fl t (pop j) L := rfl
      generalize pop j = c at H1 H2 HYES HNO hfl hpop
      generalize fl t c L = b at H2 hfl
      generalize fls t L c = f at HYES HNO hfl
      generalize ptL t L j = l at HO HYES HNO hlen ⊢
      cases hf : f
      · rw [← hfl, hf] at H2
        have HNO2 := Lib.hid (HNO.out hf)
        clear hfl hf
        go_wp2_with fail
        go_region_with (first
          | (go_at_call 72; refine (H1.out _).mono ?_; rintro e w' ⟨rfl, rfl⟩)
          | (go_at_call 71; refine (H2.out _).mono ?_; rintro e w3 ⟨rfl, hb3⟩))
        all_goals
          have hb3' : Below wr.heap.size wr w3 := by first | exact hb3 | exact ((Below.refl _ wr).drew).trans (hb3.mono (by simp))
          have HB3 := Lib.hid hb3'
          clear hb3 hb3'
          go_wp2_with fail
          exact ⟨⟨j + 1, hlt, by go_num, by rw [HNO2.out]; exact ownsRow_kept HO.out HB3.out, kept_cell HB3.out hz c0, kept_cell HB3.out hz c1, Nat.lt_of_lt_of_le hz HB3.out.size, HBR.out.trans (HB3.out.mono (Nat.le_of_lt hz))⟩, by simp [intOf]; omega⟩
      · rw [← hfl, hf] at H2
        have HYES2 := Lib.hid (HYES.out hf)
        clear hfl hf
        go_wp2_with fail
        go_region_with (first
          | (go_at_call 72; refine (H1.out _).mono ?_; rintro e w' ⟨rfl, rfl⟩)
          | (go_at_call 71; refine (H2.out _).mono ?_; rintro e w3 ⟨rfl, hb3⟩))
        all_goals
          have hb3' : Below wr.heap.size wr w3 := by first | exact hb3 | exact ((Below.refl _ wr).drew).trans (hb3.mono (by simp))
          have HB3 := Lib.hid hb3'
          have HO3 := Lib.hid (ownsRow_kept HO.out hb3')
          have d0 := kept_cell hb3' hz c0
          have d1 := kept_cell hb3' hz c1
          have hz3 := Nat.lt_of_lt_of_le hz hb3'.size
          have hj3 : l.length + 1 ≤ maxLen := by unfold maxLen; omega
          clear hb3 hb3'
          go_wp2_with (at_builtin; refine wpList_append_own _ rfl _ _ 36 rfl (w.heap.size + 1) 3 i0 (.int .i64 0) 1 8 Tryd.underlying36 hi hi0 hi1 hi2 rfl (by decide) _ _ _ rfl (HO3.out.alloc _) ⟨w3.heap.size, 0, none⟩ 1 1 [.int .i64 (j : Int)] rfl rfl ?_ ?_ ?_ ?_ ?_ ?_; rotate_right; intro v' w4 hown4 hgrow _)
          · have hbg : Below (w.heap.size + 1) w3 w4 := ((Below.refl (w.heap.size + 1) w3).alloc (by omega) _).grown hgrow (by simp; omega) (fun k e => (HO3.out.lt k e).1)
            refine ⟨⟨j + 1, hlt, by go_num, ?_, (hbg.cell (p := ⟨w.heap.size, 0, none⟩) (Nat.lt_succ_self _)).trans d0, (hbg.cell (p := ⟨w.heap.size, 1, none⟩) (Nat.lt_succ_self _)).trans d1, Nat.lt_of_lt_of_le hz3 hbg.size, (HBR.out.trans (HB3.out.mono (Nat.le_of_lt hz))).trans (hbg.mono (by omega))⟩, by simp [intOf]; omega⟩
            rw [HYES2.out, List.map_append, List.length_append]
            exact hown4
          · exact fun j u hu => new_cell _ _ _ hu
          · simp [Value.oneCell']
          · exact hj3
          · omega
          · simp; omega
    · obtain rfl : j = N := by omega
      have hjj : ¬ ((j : Int) < (j : Int)) := by omega
      clear c0 c1
      go_wp2_with fail
      go_ret
      exact ⟨_, rfl, ownsRow_base HO.out (by omega), HBR.out⟩
end Go.Proofs.YtencblbkbalmcaaDoor
