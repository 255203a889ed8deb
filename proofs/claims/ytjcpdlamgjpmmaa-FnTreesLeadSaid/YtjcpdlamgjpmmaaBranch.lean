/-
  'IsBarren', 'BranchOf' of both.
-/
import Derived.Test.YtjcpdlamgjpmmaaBarren
import Derived.Test.YtjcpdlamgjpmmaaTreeO
import Derived.Test.YtjcpdlamgjpmmaaAskT
namespace Go.Proofs.Ytjcpdlamgjpmmaa
open Go.RowKit
set_option linter.unusedVariables false

/-- The odd numbers that come to n, 2 n, .., the first k of these. -/
def brL (t p n : Int) : Nat → List Int
  | 0 => []
  | k + 1 => brL t p n k ++ (oddBf t p (itr dblF k n)).toList
def brB (t p n k : Int) : Bool := goodB t p && inB k 0 20 && allB dblF n (k.toNat + 1)
def brX (t p n k : Int) : List Int := if brB t p n k = true then brL t p n (k.toNat + 1) else []
theorem brL_len (t p n : Int) (k : Nat) : (brL t p n k).length ≤ k := by
  induction k with
  | zero => exact Nat.le_refl _
  | succ k ih => rw [brL, List.length_append]; cases oddBf t p (itr dblF k n) <;> simp <;> omega
theorem brX_len (t p n k : Int) : (brX t p n k).length ≤ 1000000000000 := by
  unfold brX
  split
  · rename_i h
    have hi : inB k 0 20 = true := by simp only [brB, Bool.and_eq_true] at h; exact h.1.2
    have hk : 0 ≤ k ∧ k ≤ 20 := by simpa [inB] using hi
    have := brL_len t p n (k.toNat + 1)
    omega
  · simp
theorem brL_some {t p n : Int} {k : Nat} {x y : Int} (hx : itr dblF k n = x) (h : oddBf t p x = some y) : brL t p n (k + 1) = brL t p n k ++ [y] := by rw [brL, hx, h]; rfl
theorem brL_none {t p n : Int} {k : Nat} {x : Int} (hx : itr dblF k n = x) (h : oddBf t p x = none) : brL t p n (k + 1) = brL t p n k := by rw [brL, hx, h]; simp
theorem brB_asked {t p n k : Int} (h : askT t p n k = false) : brB t p n k = false := by
  rw [Bool.eq_false_iff]
  intro hb
  simp only [brB, Bool.and_eq_true] at hb
  have hn : numB n = true := allB_at (j := 0) (k := k.toNat + 1) (by omega) hb.2
  simp [askT, hb.1.1, hb.1.2, hn] at h

set_option maxRecDepth 100000 in
set_option maxHeartbeats 4000000 in
theorem iBranchOf (t p n k : Int) (w : World) :
    Calls Try.prog 6 #[.agg #[.int .i64 t, .int .i64 p], .int .i64 n, .int .i64 k] w (RetInts (brX t p n k) (brB t p n k) w) := by
  obtain ⟨i0, hi, hi0, hi1, hi2⟩ := info_parts info3
  have HM := Lib.hid (fun w => isMap_any t p w)
  have HI := Lib.hid (fun w => isLevel_any k w)
  cases hg : goodB t p
  · have HA : Hid (brB t p n k = false) := Lib.hid (by simp [brB, hg])
    have HX : Hid (brX t p n k = []) := Lib.hid (by rw [brX, if_neg (by rw [HA.out]; simp)])
    rw [hg] at HM
    clear hg hi hi0 hi1 hi2
    go_enter Try.func6, Try.ntmps6
    go_wp2_with fail
    refine (HM.out _).mono ?_
    rintro e w1 ⟨rfl, hb1⟩
    obtain ⟨c0, c1, hz, hb⟩ := map_block hb1
    clear hb1
    go_wp2_with fail
    go_ret2
    exact retI_none' HX.out HA.out hb
  rw [hg] at HM
  cases hl : inB k 0 20
  · have HA : Hid (brB t p n k = false) := Lib.hid (by simp [brB, hl])
    have HX : Hid (brX t p n k = []) := Lib.hid (by rw [brX, if_neg (by rw [HA.out]; simp)])
    rw [hl] at HI
    clear hg hl hi hi0 hi1 hi2
    go_enter Try.func6, Try.ntmps6
    go_wp2_with fail
    refine (HM.out _).mono ?_
    rintro e w1 ⟨rfl, hb1⟩
    obtain ⟨c0, c1, hz, hb⟩ := map_block hb1
    clear hb1
    go_wp2_with (go_at_call 32; refine (HI.out _).mono ?_; rintro e w' ⟨rfl, rfl⟩)
    go_ret2
    exact retI_none' HX.out HA.out hb
  have hk : 0 ≤ k ∧ k ≤ 20 := by simpa [inB] using hl
  obtain ⟨L, rfl⟩ : ∃ L : Nat, k = L := ⟨k.toNat, by omega⟩
  have HOK : Hid (brB t p n L = allB dblF n (L + 1)) := Lib.hid (by rw [brB, hg, hl, Int.toNat_natCast]; rfl)
  have HG := Lib.hid hg
  have hL : (L : Int) ≤ 20 := hk.2
  rw [hl] at HI
  clear hg hl hk
  go_enter Try.func6, Try.ntmps6
  go_wp2_with fail
  refine (HM.out _).mono ?_
  rintro e w1 ⟨rfl, hb1⟩
  obtain ⟨c0, c1, hz, hb⟩ := map_block hb1
  have HB1 := Lib.hid hb
  clear hb1 hb
  go_wp2_with (go_at_call 32; refine (HI.out _).mono ?_; rintro e w' ⟨rfl, rfl⟩)
  go_loopw [1, 8, 20] (fun x v i wr => ∃ j : Nat, j ≤ L + 1 ∧ i = .int .i64 j ∧ x = .int .i64 (itr dblF j n) ∧ allB dblF n j = true ∧ wr.cell? ⟨w.heap.size, 0, none⟩ = some (.int .i64 t) ∧ wr.cell? ⟨w.heap.size, 1, none⟩ = some (.int .i64 p) ∧ w.heap.size < wr.heap.size ∧ Below w.heap.size w wr ∧ wr.ownsRow (w.heap.size + 1) 3 1 v (brL t p n j).length ((brL t p n j).map (Value.int .i64))) (fun _ _ i _ => L + 1 - (RowKit.intOf i).toNat)
  case atStart => exact ⟨0, by omega, rfl, rfl, rfl, c0, c1, hz, HB1.out, World.ownsRow_nil _ _ _ _⟩
  case round =>
    clear c0 c1 hz
    obtain ⟨j, hj, rfl, rfl, hall, c0, c1, hz, hbr, hown⟩ := hrel
    have HBR := Lib.hid hbr
    have HALL := Lib.hid hall
    have HO := Lib.hid hown
    have hlen := brL_len t p n j
    have hsz : w.heap.size ≤ wr.heap.size := Nat.le_of_lt hz
    clear hbr hown hall
    by_cases hlt : j < L + 1
    · have hcmp : (j : Int) < (L : Int) + 1 := by omega
      obtain ⟨x, hx⟩ : ∃ x, itr dblF j n = x := ⟨_, rfl⟩
      have HS : Hid (itr dblF (j + 1) n = x * 2) := Lib.hid (by rw [itr_succ, dblF, hx, Int.mul_comm])
      have HBS := Lib.hid (allB_succ dblF n j)
      have HL0 := Lib.hid (fun y (h : oddBf t p x = some y) => brL_some hx h)
      have HL1 := Lib.hid (fun (h : oddBf t p x = none) => brL_none hx h)
      have HBAD : Hid (numB x = false → allB dblF n (L + 1) = false) := Lib.hid (fun h => by
        rw [Bool.eq_false_iff]
        intro h2
        have h3 := allB_at (j := j) hlt h2
        rw [hx, h] at h3
        cases h3)
      rw [hx] at HBS ⊢
      have HIX := Lib.hid (fun w => isNumber_any x w)
      obtain ⟨xs, hxs⟩ : ∃ xs, brL t p n j = xs := ⟨_, rfl⟩
      rw [hxs] at hlen HL0 HL1 HO
      clear hx hxs
      have hj3 : xs.length + 1 ≤ maxLen := by unfold maxLen; omega
      cases hn : numB x
      · have HF := Lib.hid (HOK.out.trans (HBAD.out hn))
        rw [hn] at HIX
        clear hn HBAD HL0 HL1 HBS
        go_wp2_with (go_at_call 33; refine (HIX.out _).mono ?_; rintro e w' ⟨rfl, rfl⟩)
        go_ret2
        exact retI_none' (by rw [brX, if_neg (by rw [HF.out]; simp)]) HF.out HBR.out
      · have HNX : Hid (allB dblF n (j + 1) = true) := Lib.hid (by rw [HBS.out, HALL.out, hn]; rfl)
        obtain ⟨x1, x2⟩ := numB_wide hn
        rw [hn] at HIX
        have HO3 := Lib.hid (fun w => oddTo_any t p x w HG.out x1 x2)
        have HOB := Lib.hid (oddBf_oddP (n := x) HG.out)
        obtain ⟨y, hy⟩ : ∃ y, oddP t p x = y := ⟨_, rfl⟩
        rw [hy] at HO3 HOB
        have HIY := Lib.hid (fun w => isNumber_any y w)
        clear hn HBAD hy HBS
        cases hny : numB y
        · skip
          have HLN := Lib.hid (HL1.out (by rw [HOB.out, if_neg (by simp [hny])]))
          rw [hny] at HIY
          clear hny HL0 HL1 HOB
          go_wp2_with (go_at_call 33; refine (HIX.out _).mono ?_; rintro e w' ⟨rfl, rfl⟩; clear HIX)
          refine (HO3.out _).mono ?_
          rintro e w2 ⟨rfl, hb2⟩
          have d0 := kept_cell hb2 hz c0
          have d1 := kept_cell hb2 hz c1
          have hz2 := Nat.lt_of_lt_of_le hz hb2.size
          have HBR2 := Lib.hid (HBR.out.trans (hb2.mono (Nat.le_of_lt hz)))
          have HO2 := Lib.hid (ownsRow_kept HO.out hb2)
          clear c0 c1 hb2
          go_wp2_with (go_at_call 33; refine (HIY.out _).mono ?_; rintro e w' ⟨rfl, rfl⟩)
          exact ⟨⟨j + 1, hlt, by go_num, by rw [HS.out], HNX.out, d0, d1, hz2, HBR2.out, by rw [HLN.out]; exact HO2.out⟩, by simp [RowKit.intOf]; omega⟩
        · skip
          have HLN := Lib.hid (HL0.out y (by rw [HOB.out, if_pos hny]))
          rw [hny] at HIY
          clear hny HL0 HL1 HOB
          go_wp2_with (go_at_call 33; refine (HIX.out _).mono ?_; rintro e w' ⟨rfl, rfl⟩; clear HIX)
          refine (HO3.out _).mono ?_
          rintro e w2 ⟨rfl, hb2⟩
          have d0 := kept_cell hb2 hz c0
          have d1 := kept_cell hb2 hz c1
          have hz2 := Nat.lt_of_lt_of_le hz hb2.size
          have HBR2 := Lib.hid (HBR.out.trans (hb2.mono (Nat.le_of_lt hz)))
          have HO2 := Lib.hid (ownsRow_kept HO.out hb2)
          clear c0 c1 hb2
          have hz3 : w.heap.size + 1 ≤ w2.heap.size := hz2
          go_wp2_with (first | (go_at_call 33; refine (HIY.out _).mono ?_; rintro e w' ⟨rfl, rfl⟩) | (at_builtin; refine wpList_append_own _ rfl _ _ 28 rfl (w.heap.size + 1) 3 i0 (.int .i64 0) 1 8 Try.underlying28 hi hi0 hi1 hi2 rfl (by decide) _ _ _ rfl (HO2.out.alloc _) ⟨w2.heap.size, 0, none⟩ 1 1 [.int .i64 y] rfl rfl (fun j u hu => new_cell _ _ _ hu) (by simp [Value.oneCell']) hj3 (by omega) (by simp; omega) ?_; intro v3 w3 hown3 hgrow3 _))
          have hbg : Below (w.heap.size + 1) w2 w3 := ((Below.refl (w.heap.size + 1) w2).alloc hz3 _).grown hgrow3 (by simp; omega) (fun k e => (HO2.out.lt k e).1)
          refine ⟨⟨j + 1, hlt, by go_num, by rw [HS.out], HNX.out, (hbg.cell (p := ⟨w.heap.size, 0, none⟩) (Nat.lt_succ_self _)).trans d0, (hbg.cell (p := ⟨w.heap.size, 1, none⟩) (Nat.lt_succ_self _)).trans d1, Nat.lt_of_lt_of_le hz2 hbg.size, HBR2.out.trans (hbg.mono (Nat.le_succ _)), ?_⟩, by simp [RowKit.intOf]; omega⟩
          rw [HLN.out, List.length_append, List.map_append]
          exact hown3
    · have HJ : Hid (j = L + 1) := Lib.hid (by omega)
      have hcmp : ¬ ((j : Int) < (L : Int) + 1) := by omega
      have HT : Hid (brB t p n L = true) := Lib.hid (HOK.out.trans (by have := HALL.out; rw [HJ.out] at this; exact this))
      clear hlt hj hlen
      have HX : Hid (brX t p n L = brL t p n (L + 1)) := Lib.hid (by rw [brX, if_pos HT.out]; rfl)
      go_wp2_with fail
      go_ret2
      refine ⟨_, by rw [HT.out]; rfl, ?_, HBR.out⟩
      rw [HX.out, ← HJ.out]
      exact ownsRow_base HO.out (Nat.le_succ _)

set_option maxRecDepth 100000 in
set_option maxHeartbeats 4000000 in
theorem sBranchOf (t p n k : Int) (w : World) :
    Calls Try.prog 7 #[.agg #[.int .i64 t, .int .i64 p], .int .i64 n, .int .i64 k] w (RetInts (brX t p n k) (brB t p n k) w) := by
  obtain ⟨i0, hi, hi0, hi1, hi2⟩ := info_parts info3
  have HM := Lib.hid (fun w => trAsked_any t p n k w)
  cases hga : askT t p n k
  · have HA : Hid (brB t p n k = false) := Lib.hid (brB_asked hga)
    have HX : Hid (brX t p n k = []) := Lib.hid (by rw [brX, if_neg (by rw [HA.out]; simp)])
    rw [hga] at HM
    clear hga hi hi0 hi1 hi2
    go_enter Try.func7, Try.ntmps7
    go_wp2_with fail
    refine (HM.out _).mono ?_
    rintro e w1 ⟨rfl, hb1⟩
    obtain ⟨c0, c1, hz, hb⟩ := map_block hb1
    clear hb1
    go_wp2_with fail
    go_ret2
    exact retI_none' HX.out HA.out hb
  rw [hga] at HM
  have hg : goodB t p = true := by simp only [askT, Bool.and_eq_true] at hga; exact hga.1.1
  have hl : inB k 0 20 = true := by simp only [askT, Bool.and_eq_true] at hga; exact hga.2
  have HI : Hid True := Lib.hid trivial
  clear hga
  have hk : 0 ≤ k ∧ k ≤ 20 := by simpa [inB] using hl
  obtain ⟨L, rfl⟩ : ∃ L : Nat, k = L := ⟨k.toNat, by omega⟩
  have HOK : Hid (brB t p n L = allB dblF n (L + 1)) := Lib.hid (by rw [brB, hg, hl, Int.toNat_natCast]; rfl)
  have HG := Lib.hid hg
  have hL : (L : Int) ≤ 20 := hk.2
  skip
  clear hg hl hk
  go_enter Try.func7, Try.ntmps7
  go_wp2_with fail
  refine (HM.out _).mono ?_
  rintro e w1 ⟨rfl, hb1⟩
  obtain ⟨c0, c1, hz, hb⟩ := map_block hb1
  have HB1 := Lib.hid hb
  clear hb1 hb
  go_wp2_with fail
  go_loopw [1, 8, 9] (fun x v i wr => ∃ j : Nat, j ≤ L + 1 ∧ i = .int .i64 j ∧ x = .int .i64 (itr dblF j n) ∧ allB dblF n j = true ∧ wr.cell? ⟨w.heap.size, 0, none⟩ = some (.int .i64 t) ∧ wr.cell? ⟨w.heap.size, 1, none⟩ = some (.int .i64 p) ∧ w.heap.size < wr.heap.size ∧ Below w.heap.size w wr ∧ wr.ownsRow (w.heap.size + 1) 3 1 v (brL t p n j).length ((brL t p n j).map (Value.int .i64))) (fun _ _ i _ => L + 1 - (RowKit.intOf i).toNat)
  case atStart => exact ⟨0, by omega, rfl, rfl, rfl, c0, c1, hz, HB1.out, World.ownsRow_nil _ _ _ _⟩
  case round =>
    clear c0 c1 hz
    obtain ⟨j, hj, rfl, rfl, hall, c0, c1, hz, hbr, hown⟩ := hrel
    have HBR := Lib.hid hbr
    have HALL := Lib.hid hall
    have HO := Lib.hid hown
    have hlen := brL_len t p n j
    have hsz : w.heap.size ≤ wr.heap.size := Nat.le_of_lt hz
    clear hbr hown hall
    by_cases hlt : j < L + 1
    · have hcmp : (j : Int) ≤ (L : Int) := by omega
      obtain ⟨x, hx⟩ : ∃ x, itr dblF j n = x := ⟨_, rfl⟩
      have HS : Hid (itr dblF (j + 1) n = x * 2) := Lib.hid (by rw [itr_succ, dblF, hx, Int.mul_comm])
      have HBS := Lib.hid (allB_succ dblF n j)
      have HL0 := Lib.hid (fun y (h : oddBf t p x = some y) => brL_some hx h)
      have HL1 := Lib.hid (fun (h : oddBf t p x = none) => brL_none hx h)
      have HBAD : Hid (numB x = false → allB dblF n (L + 1) = false) := Lib.hid (fun h => by
        rw [Bool.eq_false_iff]
        intro h2
        have h3 := allB_at (j := j) hlt h2
        rw [hx, h] at h3
        cases h3)
      rw [hx] at HBS ⊢
      have HIX := Lib.hid (fun w => mpIs_any x w)
      obtain ⟨xs, hxs⟩ : ∃ xs, brL t p n j = xs := ⟨_, rfl⟩
      rw [hxs] at hlen HL0 HL1 HO
      clear hx hxs
      have hj3 : xs.length + 1 ≤ maxLen := by unfold maxLen; omega
      cases hn : numB x
      · have HF := Lib.hid (HOK.out.trans (HBAD.out hn))
        rw [hn] at HIX
        clear hn HBAD HL0 HL1 HBS
        go_wp2_with (go_at_call 36; refine (HIX.out _).mono ?_; rintro e w' ⟨rfl, rfl⟩)
        go_ret2
        exact retI_none' (by rw [brX, if_neg (by rw [HF.out]; simp)]) HF.out HBR.out
      · have HNX : Hid (allB dblF n (j + 1) = true) := Lib.hid (by rw [HBS.out, HALL.out, hn]; rfl)
        obtain ⟨x1, x2⟩ := numB_wide hn
        rw [hn] at HIX
        have HO3 := Lib.hid (fun w => trOdd_any t p x w HG.out x1 x2)
        have HE := Lib.hid (fun y (h : oddBf t p x = some y) => oddBf_eq h)
        obtain ⟨y, hy⟩ : ∃ y, (x - p).tdiv t = y := ⟨_, rfl⟩
        rw [hy] at HO3 HE
        clear hn HBAD hy HBS
        cases ho : oddBf t p x
        · skip
          have HLN := Lib.hid (HL1.out ho)
          rw [ho] at HO3
          clear ho HL0 HL1 HE
          go_wp2_with (go_at_call 36; refine (HIX.out _).mono ?_; rintro e w' ⟨rfl, rfl⟩; clear HIX)
          refine (HO3.out _).mono ?_
          rintro e w2 ⟨rfl, hb2⟩
          have d0 := kept_cell hb2 hz c0
          have d1 := kept_cell hb2 hz c1
          have hz2 := Nat.lt_of_lt_of_le hz hb2.size
          have HBR2 := Lib.hid (HBR.out.trans (hb2.mono (Nat.le_of_lt hz)))
          have HO2 := Lib.hid (ownsRow_kept HO.out hb2)
          clear c0 c1 hb2
          go_wp2_with fail
          exact ⟨⟨j + 1, hlt, by go_num, by rw [HS.out], HNX.out, d0, d1, hz2, HBR2.out, by rw [HLN.out]; exact HO2.out⟩, by simp [RowKit.intOf]; omega⟩
        · skip
          rename_i y'
          obtain rfl : y' = y := HE.out y' ho
          have HLN := Lib.hid (HL0.out _ ho)
          rw [ho] at HO3
          clear ho HL0 HL1 HE
          go_wp2_with (go_at_call 36; refine (HIX.out _).mono ?_; rintro e w' ⟨rfl, rfl⟩; clear HIX)
          refine (HO3.out _).mono ?_
          rintro e w2 ⟨rfl, hb2⟩
          have d0 := kept_cell hb2 hz c0
          have d1 := kept_cell hb2 hz c1
          have hz2 := Nat.lt_of_lt_of_le hz hb2.size
          have HBR2 := Lib.hid (HBR.out.trans (hb2.mono (Nat.le_of_lt hz)))
          have HO2 := Lib.hid (ownsRow_kept HO.out hb2)
          clear c0 c1 hb2
          have hz3 : w.heap.size + 1 ≤ w2.heap.size := hz2
          go_wp2_with (first | fail | (at_builtin; refine wpList_append_own _ rfl _ _ 28 rfl (w.heap.size + 1) 3 i0 (.int .i64 0) 1 8 Try.underlying28 hi hi0 hi1 hi2 rfl (by decide) _ _ _ rfl (HO2.out.alloc _) ⟨w2.heap.size, 0, none⟩ 1 1 [.int .i64 y'] rfl rfl (fun j u hu => new_cell _ _ _ hu) (by simp [Value.oneCell']) hj3 (by omega) (by simp; omega) ?_; intro v3 w3 hown3 hgrow3 _))
          have hbg : Below (w.heap.size + 1) w2 w3 := ((Below.refl (w.heap.size + 1) w2).alloc hz3 _).grown hgrow3 (by simp; omega) (fun k e => (HO2.out.lt k e).1)
          refine ⟨⟨j + 1, hlt, by go_num, by rw [HS.out], HNX.out, (hbg.cell (p := ⟨w.heap.size, 0, none⟩) (Nat.lt_succ_self _)).trans d0, (hbg.cell (p := ⟨w.heap.size, 1, none⟩) (Nat.lt_succ_self _)).trans d1, Nat.lt_of_lt_of_le hz2 hbg.size, HBR2.out.trans (hbg.mono (Nat.le_succ _)), ?_⟩, by simp [RowKit.intOf]; omega⟩
          rw [HLN.out, List.length_append, List.map_append]
          exact hown3
    · have HJ : Hid (j = L + 1) := Lib.hid (by omega)
      have hcmp : ¬ ((j : Int) ≤ (L : Int)) := by omega
      have HT : Hid (brB t p n L = true) := Lib.hid (HOK.out.trans (by have := HALL.out; rw [HJ.out] at this; exact this))
      clear hlt hj hlen
      have HX : Hid (brX t p n L = brL t p n (L + 1)) := Lib.hid (by rw [brX, if_pos HT.out]; rfl)
      go_wp2_with fail
      go_ret2
      refine ⟨_, by rw [HT.out]; rfl, ?_, HBR.out⟩
      rw [HX.out, ← HJ.out]
      exact ownsRow_base HO.out (Nat.le_succ _)
end Go.Proofs.Ytjcpdlamgjpmmaa
