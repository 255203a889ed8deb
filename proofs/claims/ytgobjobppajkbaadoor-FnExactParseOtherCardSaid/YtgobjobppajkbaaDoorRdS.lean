/-
  'l1Read' of the model.
-/
import Derived.Test.YtgobjobppajkbaaDoorSpl
import Derived.Test.YtgobjobppajkbaaDoorLeaf
import Derived.IntWalk
import Derived.Laws.Strings
namespace Go.Proofs.YtgobjobppajkbaaDoor
open Go.RowKit
set_option linter.unusedVariables false

theorem run_atL (l : List UInt8) (k : Nat) (b : UInt8) (hb : l[k]? = some b) (w : World) : (Instr.index 9 (.string (byt l)) (.int .i64 (k : Int))).run Tryd.prog w = .ok (.int .u8 (b.toNat : Nat)) w := by
  have hk : k < l.length := (List.getElem?_eq_some_iff.1 hb).1
  have hs : (byt l).size = l.length := by simp [byt, ByteArray.size]
  rw [run_index_string w 9 (byt l) .i64 k Tryd.underlying9, dif_pos ⟨by omega, by omega⟩]
  have e : (byt l)[(k : Int).toNat]'(by omega) = b := by
    have h2 := (List.getElem?_eq_some_iff.1 hb).2
    rw [← h2]
    show (byt l).data[(k : Int).toNat]'(by simp [byt]; omega) = _
    simp [byt]
  rw [e]
theorem dbl (l : List UInt8) : (byt l).size = l.length := by simp [byt, ByteArray.size]
theorem rd_no {l : List UInt8} (h : rdOk l = false) : rdL l = -1 := by rw [rdL, if_neg (by rw [h]; simp)]
theorem rd_yes {l : List UInt8} (h : rdOk l = true) : rdL l = rdF 0 l := by rw [rdL, if_pos h]

theorem p10 {j : Nat} (h : j ≤ 6) : (10 : Int) ^ j ≤ 1000000 := by
  rcases (show j = 0 ∨ j = 1 ∨ j = 2 ∨ j = 3 ∨ j = 4 ∨ j = 5 ∨ j = 6 by omega) with rfl | rfl | rfl | rfl | rfl | rfl | rfl <;> decide
theorem rdF_at {l : List UInt8} {j : Nat} {b : UInt8} (h : l[j]? = some b) (acc : Int) : rdF acc (l.drop j) = if 48 ≤ b.toNat ∧ b.toNat ≤ 57 then rdF (10 * acc + ((b.toNat : Int) - 48)) (l.drop (j + 1)) else -1 := by
  have hj := (List.getElem?_eq_some_iff.1 h).1
  have hb := (List.getElem?_eq_some_iff.1 h).2
  rw [List.drop_eq_getElem_cons hj, hb, rdF]
set_option maxHeartbeats 4000000 in
theorem l1Read_any (l : List UInt8) (hl : l.length ≤ 1048576) (w : World) :
    Calls Tryd.prog 81 #[.string (byt l)] w fun e w' => e = .returned (.int .i64 (rdL l)) ∧ w = w' := by
  have hsz : (((byt l).size : Nat) : Int) = (l.length : Int) := by rw [dbl]
  have HIN := Lib.hid (fun w => l1In_any (l.length : Int) 1 6 w)
  obtain ⟨L, hL⟩ : ∃ L, l.length = L := ⟨_, rfl⟩
  rw [hL] at hsz HIN
  by_cases h16 : 1 ≤ L ∧ L ≤ 6
  case neg =>
    have HE := Lib.hid (rd_no (l := l) (by rw [rdOk, hL, decide_eq_false h16]; rfl))
    have hin : inB (L : Int) 1 6 = false := by simp [inB]; omega
    rw [hin] at HIN
    clear hin h16
    go_enter Tryd.func81, Tryd.ntmps81
    go_wp2_with (go_at_call 72; refine (HIN.out _).mono ?_; rintro e w' ⟨rfl, rfl⟩)
    go_ret
    exact ⟨ret_int HE.out.symm, rfl⟩
  case pos =>
    have hin : inB (L : Int) 1 6 = true := by simp [inB]; omega
    rw [hin] at HIN
    obtain ⟨b0, hb0⟩ : ∃ b, l[0]? = some b := ⟨l[0]'(by omega), List.getElem?_eq_getElem (by omega)⟩
    have hr0 := run_atL l 0 b0 hb0
    have hhd : l.head? = some b0 := by rw [List.head?_eq_getElem?]; exact hb0
    have hr1 : ∀ w, (Instr.index 9 (.string (byt l)) (.int .i64 0)).run Tryd.prog w = .ok (.int .u8 (b0.toNat : Nat)) w := hr0
    clear hr0
    by_cases h48 : b0.toNat = 48 ∧ 1 < L
    case pos =>
      obtain ⟨h48, h1L⟩ := h48
      have hb48 : b0 = 48 := UInt8.toNat_inj.1 h48
      have HE := Lib.hid (rd_no (l := l) (by rw [rdOk, hL, decide_eq_true h16, hhd, hb48, decide_eq_true h1L]; rfl))
      have q1 : ((b0.toNat : Nat) : Int) = 48 := by omega
      have q2 : 1 < (L : Int) := by omega
      clear hin h16 hhd hb0 hb48 h48 h1L
      go_enter Tryd.func81, Tryd.ntmps81
      go_wp2_with (go_at_call 72; refine (HIN.out _).mono ?_; rintro e w' ⟨rfl, rfl⟩)
      go_ret
      exact ⟨ret_int HE.out.symm, rfl⟩
    case neg =>
      have hok : rdOk l = true := by
        rw [rdOk, hL, decide_eq_true h16, hhd]
        by_cases hb : b0 = 48
        · subst hb
          rw [decide_eq_false (by intro h; exact h48 ⟨rfl, h⟩)]
          simp
        · have : (some b0 == some (48 : UInt8)) = false := by simpa using hb
          rw [this]
          rfl
      have HE := Lib.hid (rd_yes hok)
      have hcase : (((b0.toNat : Nat) : Int) = 48 ∧ ¬ 1 < (L : Int)) ∨ ¬ ((b0.toNat : Nat) : Int) = 48 := by omega
      obtain ⟨V, hV⟩ : ∃ V, rdF 0 l = V := ⟨_, rfl⟩
      rw [hV] at HE
      have HV := Lib.hid (show rdF 0 (l.drop 0) = V by rw [List.drop_zero]; exact hV)
      have HAT := Lib.hid (fun j (h : j < L) => (⟨l[j]'(by omega), List.getElem?_eq_getElem (by omega)⟩ : ∃ b, l[j]? = some b))
      have HSTEP := Lib.hid (fun j b acc (h : l[j]? = some b) => rdF_at h acc)
      have HRUN := Lib.hid (fun k b h => run_atL l k b h)
      have HEND := Lib.hid (show ∀ acc, rdF acc (l.drop L) = acc from fun acc => by rw [List.drop_eq_nil_of_le (by omega)]; rfl)
      obtain ⟨hL1, hL6⟩ := h16
      have hL6' : (L : Int) ≤ 6 := by omega
      clear hin hhd hb0 h48 hok hV hL hl
      rcases hcase with ⟨q1, q2⟩ | q1
      all_goals
        go_enter Tryd.func81, Tryd.ntmps81
        go_wp2_with (go_at_call 72; refine (HIN.out _).mono ?_; rintro e w' ⟨rfl, rfl⟩)
        go_loop [3, 4] (fun n i => ∃ (j : Nat) (acc : Int), j ≤ L ∧ i = .int .i64 j ∧ n = .int .i64 acc ∧ 0 ≤ acc ∧ acc < 10 ^ j ∧ rdF acc (l.drop j) = V) (fun _ i => L - (RowKit.intOf i).toNat)
        case atStart => exact ⟨0, 0, Nat.zero_le _, rfl, rfl, by omega, by decide, HV.out⟩
        case round =>
          obtain ⟨j, acc, hj, rfl, rfl, a0, a1, hv⟩ := hrel
          have ha6 : acc < 1000000 := by have := p10 (show j ≤ 6 by omega); omega
          by_cases hlt : j < L
          · obtain ⟨b, hb⟩ := HAT.out j hlt
            have hrun := HRUN.out j b hb
            have hs := HSTEP.out j b acc hb
            rw [hv] at hs
            have hlt2 : (j : Int) < (L : Int) := by omega
            have hj0 : (0 : Int) ≤ (j : Int) := by omega
            have hb8 : b.toNat < 256 := UInt8.toNat_lt b
            by_cases hd : 48 ≤ b.toNat ∧ b.toNat ≤ 57
            · rw [if_pos hd] at hs
              have HS := Lib.hid hs
              have d1 : ¬ ((b.toNat : Nat) : Int) < 48 := by omega
              have d2 : ¬ 57 < ((b.toNat : Nat) : Int) := by omega
              have d3 : IntKind.u8.wrap (((b.toNat : Nat) : Int) - 48) = ((b.toNat : Nat) : Int) - 48 := IntWalk.u8_in _ (by omega)
              have d4 : IntKind.i64.wrap (((b.toNat : Nat) : Int) - 48) = ((b.toNat : Nat) : Int) - 48 := IntWalk.i64_in _ (by omega)
              have d5 : IntKind.i64.wrap (10 * acc) = 10 * acc := IntWalk.i64_in _ (by omega)
              have d6 : IntKind.i64.wrap (10 * acc + (((b.toNat : Nat) : Int) - 48)) = 10 * acc + (((b.toNat : Nat) : Int) - 48) := IntWalk.i64_in _ (by omega)
              have HP : Hid (10 * acc + (((b.toNat : Nat) : Int) - 48) < 10 ^ (j + 1)) := Lib.hid (by rw [Int.pow_succ]; omega)
              clear hs hv hb hd a1 ha6
              go_wp2_with fail
              exact ⟨⟨j + 1, _, hlt, by go_num, rfl, by omega, HP.out, HS.out.symm⟩, by simp [RowKit.intOf]; omega⟩
            · rw [if_neg hd] at hs
              have HS := Lib.hid hs
              clear hv hs a1 ha6
              by_cases d1 : ((b.toNat : Nat) : Int) < 48
              · go_wp2_with fail
                go_ret
                exact ⟨ret_int (by rw [HE.out, HS.out]), rfl⟩
              · have d2 : 57 < ((b.toNat : Nat) : Int) := by omega
                go_wp2_with fail
                go_ret
                exact ⟨ret_int (by rw [HE.out, HS.out]), rfl⟩
          · obtain rfl : j = L := by omega
            have hlt2 : ¬ ((j : Int) < (j : Int)) := by omega
            have HS : Hid (acc = V) := Lib.hid (by rw [← hv, HEND.out])
            clear hv a1 ha6
            go_wp2_with fail
            go_ret
            exact ⟨ret_int (by rw [HE.out, HS.out]), rfl⟩
end Go.Proofs.YtgobjobppajkbaaDoor
