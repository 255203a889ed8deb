/-
  'cyAll', 'CycleWords', 'CountCycleWords' of the model.
-/
import Derived.Test.YtnhpoefhcngoaaaDoorCyWd
import Derived.Test.YtnhpoefhcngoaaaDoorDoes
namespace Go.Proofs.YtnhpoefhcngoaaaDoor
open Go.RowKit
set_option linter.unusedVariables false

/-- Is it a cycle word? -/
def cwl (t p : Int) (l : List UInt8) : Bool := decide ((numW t p l).2 = 1)
/-- The cycle words of a length, primitive and the first ones of their turns. -/
def cwX (t p : Int) (L : Nat) : List ByteArray := selX (fun l => ftB l && cwl t p l) L (2 ^ L)
theorem cwX_len (t p : Int) {L : Nat} (h : L ≤ 10) : (cwX t p L).length ≤ 900 := Nat.le_trans (selX_sub ftB (cwl t p) L (2 ^ L)) (ftX_len h)
theorem turn_pw (x : Nat) {L : Nat} (h1 : 1 ≤ L) (hL : L ≤ 10) : turnB (bts (pw x L)) = true :=
  turnB_iff.2 ⟨by rw [bts_size, pw_length]; exact h1, by rw [bts_size, pw_length]; exact hL, pw_signs x L⟩
theorem cyFirst_pw (x L : Nat) (w : World) (hL : L ≤ 10) :
    Calls Tryd.prog 43 #[.string (bts (pw x L))] w fun e w' => e = .returned (.string (bts (leastT (pw x L)))) ∧ Below w.heap.size w w' :=
  cyFirst_any (bts (pw x L)) w (by rw [bts_size, pw_length]; exact hL) (pw_signs x L)
theorem eq_least2 (l : List UInt8) : ((bts (leastT l)).toList == (bts l).toList) = (leastT l == l) := by
  rw [Lib.toList_data, Lib.toList_data, bts_list, bts_list]

set_option maxRecDepth 100000 in
set_option maxHeartbeats 8000000 in
theorem cyAll_any (t p : Int) (L : Nat) (w : World) (hg : goodB t p = true) (h1 : 1 ≤ L) (hL : L ≤ 10) :
    Calls Tryd.prog 40 #[.agg #[.int .i64 t, .int .i64 p], .int .i64 (L : Int)] w fun e w' => ∃ v, e = .returned v ∧ StrsAt w' w.heap.size v (cwX t p L) ∧ Below w.heap.size w w' := by
  have HG := Lib.hid hg
  have HCW := Lib.hid (fun w => cyWords_any L w hL)
  obtain ⟨i0, hi, hi0, hi1, hi2⟩ := info_parts infoS
  have hN := pow2_1024 hL
  have hNp := pow2_pos L
  unfold cwX
  obtain ⟨N, hNN⟩ : ∃ N, 2 ^ L = N := ⟨_, rfl⟩
  rw [hNN] at hN hNp HCW ⊢
  have hNi : (N : Int) ≤ 1024 := by omega
  clear hg hNN
  go_enter Tryd.func40, Tryd.ntmps40
  go_wp2_with fail
  refine (HCW.out _).mono ?_
  rintro e w1 ⟨v1, rfl, hrow1, hb1⟩
  obtain ⟨c0, c1, hz1, hb⟩ := map_block hb1
  obtain ⟨g, cap, rfl, hg1, hg2, hrow⟩ := strs_row hrow1 (by rw [allX_length]; exact hNp)
  rw [allX_length]
  have HROW := Lib.hid hrow
  have HBR1 := Lib.hid hb
  clear hrow hrow1 hb1 hb hg1
  go_wp2_with fail
  go_loopw [5, 11] (fun v x wr => ∃ j : Nat, j ≤ N ∧ x = .int .i64 j ∧ wr.ownsRow w1.heap.size 9 1 v (selX (fun l => ftB l && cwl t p l) L j).length ((selX (fun l => ftB l && cwl t p l) L j).map Value.string) ∧ wr.cell? ⟨w.heap.size, 0, none⟩ = some (.int .i64 t) ∧ wr.cell? ⟨w.heap.size, 1, none⟩ = some (.int .i64 p) ∧ w.heap.size < wr.heap.size ∧ Below w.heap.size w wr ∧ Below w1.heap.size w1 wr) (fun _ x _ => N - (intOf x).toNat)
  case atStart => exact ⟨0, by omega, rfl, World.ownsRow_nil _ _ _ _, c0, c1, hz1, HBR1.out, Below.refl _ _⟩
  case round =>
    obtain ⟨j, hj, rfl, hown, d0, d1, hz, hbr, hbs⟩ := hrel
    have HO := Lib.hid hown
    have HBR := Lib.hid hbr
    have HBS := Lib.hid hbs
    have hsz := hbs.size
    have hlen := selX_le (fun l => ftB l && cwl t p l) L j
    clear hown hbr hbs c0 c1
    by_cases hlt : j < N
    · have hjN : (j : Int) < (N : Int) := by omega
      have q : wr.cell? ⟨g, j, none⟩ = some (.string (bts (pw j L))) := by
        rw [HBS.out.cell (p := ⟨g, j, none⟩) hg2, (HROW.out j (by rw [allX_length]; exact hlt)).1, allX_at hlt]
      have HP := Lib.hid (fun w => cyPrimitive_any (pw j L) w (by rw [pw_length]; exact h1) (by rw [pw_length]; exact hL))
      have HLT := Lib.hid (fun w => cyFirst_pw j L w hL)
      have HIS := Lib.hid (fun w => cyIs_any t p (bts (pw j L)) w HG.out (turn_pw j h1 hL))
      have heq := eq_least2 (pw j L)
      have HYES := Lib.hid (fun h => selX_yes (f := fun l => ftB l && cwl t p l) (L := L) (n := j) h)
      have HNO := Lib.hid (fun h => selX_no (f := fun l => ftB l && cwl t p l) (L := L) (n := j) h)
      have HFT : Hid (ftB (pw j L) = (primB (pw j L) && (leastT (pw j L) == pw j L))) := Lib.hid rfl
      have HCL : Hid (decide ((numW t p (bts (pw j L)).data.toList).2 = 1) = cwl t p (pw j L)) := Lib.hid rfl
      rw [HCL.out] at HIS
      clear HCL
      generalize cwl t p (pw j L) = cw at HYES HNO HIS
      generalize ftB (pw j L) = ft at HYES HNO HFT
      generalize (leastT (pw j L) == pw j L) = le at HFT heq
      generalize primB (pw j L) = pb at HP HFT
      generalize selX (fun l => ftB l && cwl t p l) L j = xs at HO HYES HNO hlen ⊢
      generalize leastT (pw j L) = lt at HLT heq
      generalize pw j L = l at *
      have hj3 : xs.length + 1 ≤ maxLen := by unfold maxLen; omega
      cases pb
      · have HNO2 := Lib.hid (HNO.out (by rw [HFT.out]; rfl))
        clear heq
        go_wp2_with fail
        refine (HP.out _).mono ?_
        rintro e w3 ⟨rfl, hb3⟩
        have HBR3 := Lib.hid (HBR.out.trans (hb3.mono (Nat.le_of_lt hz)))
        have HBS3 := Lib.hid (HBS.out.trans (hb3.mono HBS.out.size))
        have e0 := kept_cell hb3 hz d0
        have e1 := kept_cell hb3 hz d1
        have hz3 := Nat.lt_of_lt_of_le hz hb3.size
        have HO3 := Lib.hid (ownsRow_kept HO.out hb3)
        clear hb3 d0 d1
        go_wp2_with fail
        exact ⟨⟨j + 1, hlt, by go_num, by rw [HNO2.out]; exact HO3.out, e0, e1, hz3, HBR3.out, HBS3.out⟩, by simp [intOf]; omega⟩
      · cases le
        · have HNO2 := Lib.hid (HNO.out (by rw [HFT.out]; rfl))
          go_wp2_with fail
          refine (HP.out _).mono ?_
          rintro e w2 ⟨rfl, hb2⟩
          have HBR2 := Lib.hid (HBR.out.trans (hb2.mono (Nat.le_of_lt hz)))
          have HBS2 := Lib.hid (HBS.out.trans (hb2.mono HBS.out.size))
          have f0 := kept_cell hb2 hz d0
          have f1 := kept_cell hb2 hz d1
          have hz2 := Nat.lt_of_lt_of_le hz hb2.size
          have HO2 := Lib.hid (ownsRow_kept HO.out hb2)
          clear hb2 d0 d1
          go_wp2_with fail
          refine (HLT.out _).mono ?_
          rintro e w3 ⟨rfl, hb3⟩
          have HBR3 := Lib.hid (HBR2.out.trans (hb3.mono (Nat.le_of_lt hz2)))
          have HBS3 := Lib.hid (HBS2.out.trans (hb3.mono HBS2.out.size))
          have e0 := kept_cell hb3 hz2 f0
          have e1 := kept_cell hb3 hz2 f1
          have hz3 := Nat.lt_of_lt_of_le hz2 hb3.size
          have HO3 := Lib.hid (ownsRow_kept HO2.out hb3)
          clear hb3 f0 f1
          go_wp2_with fail
          exact ⟨⟨j + 1, hlt, by go_num, by rw [HNO2.out]; exact HO3.out, e0, e1, hz3, HBR3.out, HBS3.out⟩, by simp [intOf]; omega⟩
        · cases cw
          · have HNO2 := Lib.hid (HNO.out (by rw [HFT.out]; rfl))
            go_wp2_with fail
            refine (HP.out _).mono ?_
            rintro e w2 ⟨rfl, hb2⟩
            have HBR2 := Lib.hid (HBR.out.trans (hb2.mono (Nat.le_of_lt hz)))
            have HBS2 := Lib.hid (HBS.out.trans (hb2.mono HBS.out.size))
            have f0 := kept_cell hb2 hz d0
            have f1 := kept_cell hb2 hz d1
            have hz2 := Nat.lt_of_lt_of_le hz hb2.size
            have HO2 := Lib.hid (ownsRow_kept HO.out hb2)
            clear hb2 d0 d1
            go_wp2_with fail
            refine (HLT.out _).mono ?_
            rintro e w5 ⟨rfl, hb5⟩
            have HBR5 := Lib.hid (HBR2.out.trans (hb5.mono (Nat.le_of_lt hz2)))
            have HBS5 := Lib.hid (HBS2.out.trans (hb5.mono HBS2.out.size))
            have d0 := kept_cell hb5 hz2 f0
            have d1 := kept_cell hb5 hz2 f1
            have hz5 := Nat.lt_of_lt_of_le hz2 hb5.size
            have HO5 := Lib.hid (ownsRow_kept HO2.out hb5)
            clear hb5 f0 f1
            go_wp2_with fail
            refine (HIS.out _).mono ?_
            rintro e w3 ⟨rfl, hb3⟩
            have HBR3 := Lib.hid (HBR5.out.trans (hb3.mono (Nat.le_of_lt hz5)))
            have HBS3 := Lib.hid (HBS5.out.trans (hb3.mono HBS5.out.size))
            have e0 := kept_cell hb3 hz5 d0
            have e1 := kept_cell hb3 hz5 d1
            have hz3 := Nat.lt_of_lt_of_le hz5 hb3.size
            have HO3 := Lib.hid (ownsRow_kept HO5.out hb3)
            clear hb3 d0 d1
            go_wp2_with fail
            exact ⟨⟨j + 1, hlt, by go_num, by rw [HNO2.out]; exact HO3.out, e0, e1, hz3, HBR3.out, HBS3.out⟩, by simp [intOf]; omega⟩
          · have HYES2 := Lib.hid (HYES.out (by rw [HFT.out]; rfl))
            go_wp2_with fail
            refine (HP.out _).mono ?_
            rintro e w2 ⟨rfl, hb2⟩
            have HBR2 := Lib.hid (HBR.out.trans (hb2.mono (Nat.le_of_lt hz)))
            have HBS2 := Lib.hid (HBS.out.trans (hb2.mono HBS.out.size))
            have f0 := kept_cell hb2 hz d0
            have f1 := kept_cell hb2 hz d1
            have hz2 := Nat.lt_of_lt_of_le hz hb2.size
            have HO2 := Lib.hid (ownsRow_kept HO.out hb2)
            clear hb2 d0 d1
            go_wp2_with fail
            refine (HLT.out _).mono ?_
            rintro e w5 ⟨rfl, hb5⟩
            have HBR5 := Lib.hid (HBR2.out.trans (hb5.mono (Nat.le_of_lt hz2)))
            have HBS5 := Lib.hid (HBS2.out.trans (hb5.mono HBS2.out.size))
            have d0 := kept_cell hb5 hz2 f0
            have d1 := kept_cell hb5 hz2 f1
            have hz5 := Nat.lt_of_lt_of_le hz2 hb5.size
            have HO5 := Lib.hid (ownsRow_kept HO2.out hb5)
            clear hb5 f0 f1
            go_wp2_with fail
            refine (HIS.out _).mono ?_
            rintro e w3 ⟨rfl, hb3⟩
            have HBR3 := Lib.hid (HBR5.out.trans (hb3.mono (Nat.le_of_lt hz5)))
            have HBS3 := Lib.hid (HBS5.out.trans (hb3.mono HBS5.out.size))
            have e0 := kept_cell hb3 hz5 d0
            have e1 := kept_cell hb3 hz5 d1
            have hz3 := Nat.lt_of_lt_of_le hz5 hb3.size
            have HO3 := Lib.hid (ownsRow_kept HO5.out hb3)
            clear hb3 d0 d1
            go_wp2_with (at_builtin; refine wpList_append_own _ rfl _ _ 36 rfl w1.heap.size 9 i0 (.string ⟨#[]⟩) 1 16 Tryd.underlying36 hi hi0 hi1 hi2 rfl (by decide) _ _ _ rfl (HO3.out.alloc _) ⟨w3.heap.size, 0, none⟩ 1 1 [.string (bts l)] rfl rfl (fun j u hu => new_cell _ _ _ hu) (by simp [Value.oneCell']) hj3 (by omega) (by have := HBS3.out.size; simp; omega) ?_; intro v' w4 hown4 hgrow _)
            have hbt : Below w1.heap.size w3 w4 := ((Below.refl w1.heap.size w3).alloc HBS3.out.size _).grown hgrow (by have := HBS3.out.size; simp; omega) (fun k e => (HO3.out.lt k e).1)
            refine ⟨⟨j + 1, hlt, by go_num, ?_, (hbt.cell (p := ⟨w.heap.size, 0, none⟩) hz1).trans e0, (hbt.cell (p := ⟨w.heap.size, 1, none⟩) hz1).trans e1, Nat.lt_of_lt_of_le hz3 hbt.size, HBR3.out.trans (hbt.mono (Nat.le_of_lt hz1)), HBS3.out.trans hbt⟩, by simp [intOf]; omega⟩
            rw [HYES2.out, List.map_append, List.length_append]
            exact hown4
    · obtain rfl : j = N := by omega
      have hjj : ¬ ((j : Int) < (j : Int)) := by omega
      go_wp2_with fail
      go_ret
      exact ⟨_, rfl, ownsRow_base HO.out (by omega), HBR.out⟩
end Go.Proofs.YtnhpoefhcngoaaaDoor
