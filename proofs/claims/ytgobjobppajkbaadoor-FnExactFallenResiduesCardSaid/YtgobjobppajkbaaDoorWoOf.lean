/-
  THE WORD OF A NUMBER, IN THE MODEL: 'woOf'.
-/
import Derived.Test.YtgobjobppajkbaaDoorNumB
import Derived.Laws.IdiomStrings
import Derived.OwnWalk
import Derived.Outline
namespace Go.Proofs.YtgobjobppajkbaaDoor
open Go.RowKit
set_option linter.unusedVariables false

def wby (l : List UInt8) : ByteArray := ⟨l.toArray⟩
theorem wby_add (w : World) (l : List UInt8) (b : UInt8) (h : l.length ≤ 1000) : (Op.stringOp .add (wby l) ⟨#[b]⟩).run Tryd.prog w = .ok (.string (wby (l ++ [b]))) w := by
  rw [run_string_add_sum w _ _ (by
    have h1 : (wby l).size = l.length := by show l.toArray.size = _; simp
    have h2 : (ByteArray.mk #[b]).size = 1 := rfl
    omega)]
  have : wby l ++ ⟨#[b]⟩ = wby (l ++ [b]) := by
    unfold wby
    rw [ByteArray.mk_append_mk]
  rw [this]
theorem ret_wby {x y : ByteArray} (h : x = y) : Ending.returned (.string x) = .returned (.string y) := by rw [h]
theorem par_odd {v : Int} (h : oddB v = true) : par v = 111 := by
  unfold par oddB at *
  rw [if_neg (by simpa using h)]
theorem par_even {v : Int} (h : oddB v = false) : par v = 101 := by
  unfold par oddB at *
  rw [if_pos (by simpa using h)]

set_option maxRecDepth 100000 in
set_option maxHeartbeats 2000000 in
theorem woOf_any (t p n : Int) (L : Nat) (w : World) (hg : goodB t p = true) (hL : L ≤ 15) (n1 : -2000000000000000 ≤ n) (n2 : n ≤ 2000000000000000) :
    Calls Tryd.prog 34 #[.agg #[.int .i64 t, .int .i64 p], .int .i64 n, .int .i64 L] w fun e w' => e = .returned (.string (wby (wrd t p n L))) ∧ Below w.heap.size w w' := by
  obtain ⟨pw1, pw0⟩ := pow2_le hL
  have HG := Lib.hid hg
  have HW := Lib.hid (wrd_mod hg n L)
  have HM := Lib.hid (fun w => l1Mod_any n ((2 : Int) ^ L) w (by omega) (by omega) n1 n2)
  have r0 := Int.emod_nonneg n (show (2 : Int) ^ L ≠ 0 by omega)
  have r1 := Int.emod_lt_of_pos n pw0
  obtain ⟨r, hr⟩ : ∃ r, r = n % 2 ^ L := ⟨_, rfl⟩
  rw [← hr] at r0 r1 HM HW
  rw [← HW.out]
  have hL1 : (L : Int) ≤ 15 := by omega
  clear hg hr
  go_enter Tryd.func34, Tryd.ntmps34
  go_wp2_with fail
  refine (HM.out _).mono ?_
  rintro e w1 ⟨rfl, rfl⟩
  go_wp2_with fail
  go_loopw [1, 2, 7] (fun x y z wr => ∃ j : Nat, j ≤ L ∧ x = .int .i64 (itr (sx t p) j r) ∧ y = .int .i64 ((L : Int) - j) ∧ z = .string (wby (wrd t p r j)) ∧ wr.cell? ⟨w.heap.size, 0, none⟩ = some (.int .i64 t) ∧ wr.cell? ⟨w.heap.size, 1, none⟩ = some (.int .i64 p) ∧ w.heap.size < wr.heap.size ∧ Below w.heap.size w wr) (fun _ y _ _ => (intOf y).toNat)
  case atStart => exact ⟨0, by omega, rfl, by simp, rfl, by go_simp, by go_simp, by simp, (Below.refl _ _).alloc (Nat.le_refl _) _⟩
  case round =>
    obtain ⟨j, hj, rfl, rfl, rfl, c0, c1, hz, hb⟩ := hrel
    by_cases hlt : j < L
    · have hb2 := itr_small HG.out (t := t) (p := p) (n := r) (k := j) (by omega) r0 (by omega)
      have hwl := wrd_length t p r j
      have hws := wrd_succ t p r j
      have his := itr_succ (sx t p) j r
      have hgt : 0 < (L : Int) - j := by omega
      obtain ⟨v, hv⟩ : ∃ v, v = itr (sx t p) j r := ⟨_, rfl⟩
      obtain ⟨l, hl⟩ : ∃ l, l = wrd t p r j := ⟨_, rfl⟩
      rw [← hv] at hb2 hws his
      rw [← hl] at hws hwl
      rw [← hv, ← hl]
      obtain ⟨b1, b2⟩ := hb2
      have HS := Lib.hid (fun w => mpShort_big t p v w HG.out (by omega) (by omega))
      have HIS := Lib.hid his
      have HB := Lib.hid hb
      cases ho : oddB v
      all_goals
        first | rw [par_even ho] at hws | rw [par_odd ho] at hws
        have HWS := Lib.hid hws
        have hadd := fun w b => wby_add w l b (by omega)
        have ht : (v.tmod 2 == 0) = !oddB v := even_tmod v
        rw [ho] at ht
        clear hws hwl his hv hl hb ho
        go_wp2_with fail
        refine (HS.out _).mono ?_
        rintro e w2 ⟨rfl, hb2⟩
        have d0 := kept_cell hb2 hz c0
        have d1 := kept_cell hb2 hz c1
        have HB2 := Lib.hid (HB.out.trans (hb2.mono (Nat.le_of_lt hz)))
        have hz2 := Nat.lt_of_lt_of_le hz hb2.size
        clear hb2 c0 c1
        go_wp2_with fail
        exact ⟨⟨j + 1, hlt, by rw [HIS.out], by first | rfl | (congr 1; omega), by rw [HWS.out], d0, d1, hz2, HB2.out⟩, by simp [intOf]; omega⟩
    · obtain rfl : j = L := by omega
      have hgt : ¬ (0 < (j : Int) - j) := by omega
      clear c0 c1
      go_wp2_with fail
      go_ret
      exact ⟨rfl, hb⟩
end Go.Proofs.YtgobjobppajkbaaDoor
