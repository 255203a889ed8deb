/-
  'firstTurns' of the program.
-/
import Derived.Test.YtnhpoefhcngoaaaDoorFtM
import Derived.Test.YtnhpoefhcngoaaaDoorTurnW
import Derived.Test.YtnhpoefhcngoaaaDoorTouch
import Derived.Test.YtnhpoefhcngoaaaDoorStrs
namespace Go.Proofs.YtnhpoefhcngoaaaDoor
open Go.RowKit
set_option linter.unusedVariables false

theorem infoS : (Tryd.prog.info? 9).map (fun i => (i.zero, i.size, i.bytes)) = some (some (.string ⟨#[]⟩), 1, 16) := by kernel_rfl
theorem retS_none {xs : List ByteArray} {ok : Bool} {w w' : World} (hx : xs = []) (ho : ok = false) (hb : Below w.heap.size w w') : RetStrs xs ok w (.returned (.tuple #[.slice none 0 0, .bool false])) w' := by
  subst hx ho
  exact ⟨_, rfl, World.ownsRow_nil _ _ _ _, hb⟩
theorem retS_some {xs : List ByteArray} {ok : Bool} {w w' : World} {v : Value} (hr : StrsAt w' w.heap.size v xs) (ho : ok = true) (hb : Below w.heap.size w w') : RetStrs xs ok w (.returned (.tuple #[v, .bool true])) w' := by
  subst ho
  exact ⟨v, rfl, hr, hb⟩
theorem sig_any (x L : Nat) (w : World) (hL : L ≤ 15) (hx : x ≤ 32768) :
    Calls Tryd.prog 56 #[.int .i64 (x : Int), .int .i64 (L : Int)] w fun e w' => e = .returned (.string (bts (pw x L))) ∧ Below w.heap.size w w' :=
  signsOfPattern_any x L w hL hx
/-- 'leastTurn' at a word of the list's kind. -/
theorem leastTurn_pw (x L : Nat) (w : World) (hL : L ≤ 10) :
    Calls Tryd.prog 42 #[.string (bts (pw x L))] w fun e w' => e = .returned (.string (bts (leastT (pw x L)))) ∧ Below w.heap.size w w' :=
  leastTurn_any (bts (pw x L)) w (by rw [bts_size, pw_length]; exact hL) (pw_signs x L)
theorem eq_least (l : List UInt8) : ((bts l).toList == (bts (leastT l)).toList) = (leastT l == l) := by
  rw [Lib.toList_data, Lib.toList_data, bts_list, bts_list, Bool.eq_iff_iff, beq_iff_eq, beq_iff_eq]
  exact eq_comm

set_option maxRecDepth 100000 in
set_option maxHeartbeats 4000000 in
theorem firstTurns_any (L : Nat) (w : World) (h1 : 1 ≤ L) (hL : L ≤ 10) (htab : Tab w) (hm : TabM w) :
    Calls Tryd.prog 38 #[.int .i64 (L : Int)] w fun e w' => ∃ v, e = .returned v ∧ StrsAt w' w.heap.size v (selX ftB L (2 ^ L)) ∧ Below w.heap.size w w' := by
  have HM := Lib.hid hm
  have hL1 : (L : Int) ≤ 10 := by omega
  have hL2 : (L : Int) < 16 := by omega
  have hL3 : L < 16 := by omega
  have qt0 := tab_at htab (k := L) (by omega)
  have hNN : ((2 : Int) ^ L) = ((2 ^ L : Nat) : Int) := by simp
  have hN1 := pow2_1024 hL
  obtain ⟨N, hN⟩ : ∃ N : Nat, N = 2 ^ L := ⟨_, rfl⟩
  rw [← hN] at hNN hN1 ⊢
  rw [hNN] at qt0
  have hNi : (N : Int) ≤ 1024 := by omega
  obtain ⟨i0, hi, hi0, hi1, hi2⟩ := info_parts infoS
  clear hm htab hNN hN
  go_enter Tryd.func38, Tryd.ntmps38
  go_wp2_with fail
  go_loopw [3, 9] (fun v x wr => ∃ j : Nat, j ≤ N ∧ x = .int .i64 j ∧ wr.ownsRow w.heap.size 9 1 v (selX ftB L j).length ((selX ftB L j).map Value.string) ∧ Below w.heap.size w wr) (fun _ x _ => N - (intOf x).toNat)
  case atStart => exact ⟨0, by omega, rfl, World.ownsRow_nil _ _ _ _, Below.refl _ _⟩
  case round =>
    obtain ⟨j, hj, rfl, hown, hbr⟩ := hrel
    have HO := Lib.hid hown
    have HBR := Lib.hid hbr
    have hlen := selX_le ftB L j
    clear hown hbr
    by_cases hlt : j < N
    · have hjN : (j : Int) < (N : Int) := by omega
      have HSIG := Lib.hid (fun w => sig_any j L w (by omega) (by omega))
      have HP := Lib.hid (fun w hm => isPrimitive_any (pw j L) w (by rw [pw_length]; exact h1) (by rw [pw_length]; exact hL) hm)
      have HLT := Lib.hid (fun w => leastTurn_pw j L w hL)
      have heq := eq_least (pw j L)
      have HYES := Lib.hid (fun h => selX_yes (f := ftB) (L := L) (n := j) h)
      have HNO := Lib.hid (fun h => selX_no (f := ftB) (L := L) (n := j) h)
      have hft : ftB (pw j L) = (primB (pw j L) && (leastT (pw j L) == pw j L)) := rfl
      have HFT := Lib.hid hft
      generalize ftB (pw j L) = ft at HYES HNO HFT
      generalize (leastT (pw j L) == pw j L) = le at HFT heq
      generalize primB (pw j L) = pb at HP HFT
      generalize selX ftB L j = xs at HO HYES HNO hlen ⊢
      generalize leastT (pw j L) = lt at HLT heq
      generalize pw j L = l at *
      have hj3 : xs.length + 1 ≤ maxLen := by unfold maxLen; omega
      clear hft
      cases pb
      · have HNO2 := Lib.hid (HNO.out HFT.out)
        clear heq
        go_wp2_with fail
        refine (HSIG.out _).mono ?_
        rintro e w2 ⟨rfl, hb2⟩
        have HB2 := Lib.hid (HBR.out.trans (hb2.mono HBR.out.size))
        have HO2 := Lib.hid (ownsRow_kept HO.out hb2)
        have HM2 := Lib.hid (tabM_below HM.out HB2.out (tabM_lt HM.out))
        clear hb2
        go_wp2_with (go_at_call 44; refine (HP.out _ HM2.out).mono ?_; rintro e w' ⟨rfl, rfl⟩)
        exact ⟨⟨j + 1, hlt, by go_num, by rw [HNO2.out]; exact HO2.out, HB2.out⟩, by simp [intOf]; omega⟩
      · cases le
        · have HNO2 := Lib.hid (HNO.out HFT.out)
          go_wp2_with fail
          refine (HSIG.out _).mono ?_
          rintro e w2 ⟨rfl, hb2⟩
          have HB2 := Lib.hid (HBR.out.trans (hb2.mono HBR.out.size))
          have HO2 := Lib.hid (ownsRow_kept HO.out hb2)
          have HM2 := Lib.hid (tabM_below HM.out HB2.out (tabM_lt HM.out))
          clear hb2
          go_wp2_with (go_at_call 44; refine (HP.out _ HM2.out).mono ?_; rintro e w' ⟨rfl, rfl⟩)
          refine (HLT.out _).mono ?_
          rintro e w3 ⟨rfl, hb3⟩
          have HB3 := Lib.hid (HB2.out.trans (hb3.mono HB2.out.size))
          have HO3 := Lib.hid (ownsRow_kept HO2.out hb3)
          clear hb3
          go_wp2_with fail
          exact ⟨⟨j + 1, hlt, by go_num, by rw [HNO2.out]; exact HO3.out, HB3.out⟩, by simp [intOf]; omega⟩
        · have HYES2 := Lib.hid (HYES.out HFT.out)
          go_wp2_with fail
          refine (HSIG.out _).mono ?_
          rintro e w2 ⟨rfl, hb2⟩
          have HB2 := Lib.hid (HBR.out.trans (hb2.mono HBR.out.size))
          have HO2 := Lib.hid (ownsRow_kept HO.out hb2)
          have HM2 := Lib.hid (tabM_below HM.out HB2.out (tabM_lt HM.out))
          clear hb2
          go_wp2_with (go_at_call 44; refine (HP.out _ HM2.out).mono ?_; rintro e w' ⟨rfl, rfl⟩)
          refine (HLT.out _).mono ?_
          rintro e w3 ⟨rfl, hb3⟩
          have HB3 := Lib.hid (HB2.out.trans (hb3.mono HB2.out.size))
          have HO3 := Lib.hid (ownsRow_kept HO2.out hb3)
          clear hb3
          go_wp2_with (at_builtin; refine wpList_append_own _ rfl _ _ 36 rfl w.heap.size 9 i0 (.string ⟨#[]⟩) 1 16 Tryd.underlying36 hi hi0 hi1 hi2 rfl (by decide) _ _ _ rfl (HO3.out.alloc _) ⟨w3.heap.size, 0, none⟩ 1 1 [.string (bts l)] rfl rfl (fun j u hu => new_cell _ _ _ hu) (by simp [Value.oneCell']) hj3 (by omega) (by have := HB3.out.size; simp; omega) ?_; intro v' w4 hown4 hgrow _)
          have hbg : Below w.heap.size w3 w4 := ((Below.refl w.heap.size w3).alloc HB3.out.size _).grown hgrow (by have := HB3.out.size; simp; omega) (fun k e => (HO3.out.lt k e).1)
          refine ⟨⟨j + 1, hlt, by go_num, ?_, HB3.out.trans hbg⟩, by simp [intOf]; omega⟩
          rw [HYES2.out, List.map_append, List.length_append]
          exact hown4
    · obtain rfl : j = N := by omega
      have hjj : ¬ ((j : Int) < (j : Int)) := by omega
      go_wp2_with fail
      go_ret
      exact ⟨_, rfl, HO.out, HBR.out⟩
end Go.Proofs.YtnhpoefhcngoaaaDoor
