/-
  'pzNumber' of the model.
-/
import Derived.Test.YtgobjobppajkbaaDoorSpl
namespace Go.Proofs.YtgobjobppajkbaaDoor
open Go.RowKit
set_option linter.unusedVariables false

/-- Digits alone, from a number on. -/
def pnF (acc : Int) : List UInt8 → Option Int
  | [] => some acc
  | b :: l => if 48 ≤ b.toNat ∧ b.toNat ≤ 57 then pnF (10 * acc + ((b.toNat : Int) - 48)) l else none
def pnV (neg : Bool) : Option Int → Int
  | none => 1000000000001
  | some n => if neg = true then -n else n
/-- What 'pzNumber' tells. -/
def pnL (l : List UInt8) : Int := if 1 ≤ l.length ∧ l.length ≤ 14 then (if l.head? = some 45 then pnV true (pnF 0 (l.drop 1)) else pnV false (pnF 0 l)) else 1000000000001
theorem pnF_at {l : List UInt8} {j : Nat} {b : UInt8} (h : l[j]? = some b) (acc : Int) : pnF acc (l.drop j) = if 48 ≤ b.toNat ∧ b.toNat ≤ 57 then pnF (10 * acc + ((b.toNat : Int) - 48)) (l.drop (j + 1)) else none := by
  have hj := (List.getElem?_eq_some_iff.1 h).1
  have hb := (List.getElem?_eq_some_iff.1 h).2
  rw [List.drop_eq_getElem_cons hj, hb, pnF]
theorem p10n {j : Nat} (h : j ≤ 14) : (10 : Int) ^ j ≤ 100000000000000 := by
  rcases (show j = 0 ∨ j = 1 ∨ j = 2 ∨ j = 3 ∨ j = 4 ∨ j = 5 ∨ j = 6 ∨ j = 7 ∨ j = 8 ∨ j = 9 ∨ j = 10 ∨ j = 11 ∨ j = 12 ∨ j = 13 ∨ j = 14 by omega) with rfl | rfl | rfl | rfl | rfl | rfl | rfl | rfl | rfl | rfl | rfl | rfl | rfl | rfl | rfl <;> decide

set_option maxHeartbeats 4000000 in
theorem pzNumber_any (l : List UInt8) (hl : l.length ≤ 1048576) (w : World) :
    Calls Tryd.prog 105 #[.string (byt l)] w fun e w' => e = .returned (.int .i64 (pnL l)) ∧ w = w' := by
  have hsz : (((byt l).size : Nat) : Int) = (l.length : Int) := by rw [dbl]
  obtain ⟨L, hL⟩ : ∃ L, l.length = L := ⟨_, rfl⟩
  rw [hL] at hsz
  by_cases h14 : 1 ≤ L ∧ L ≤ 14
  case neg =>
    have HE := Lib.hid (show pnL l = 1000000000001 by rw [pnL, hL, if_neg h14])
    have hin : (L : Int) < 1 ∨ ¬ (L : Int) < 1 ∧ 14 < (L : Int) := by omega
    clear h14
    rcases hin with q1 | ⟨q1, q2⟩
    all_goals
      go_enter Tryd.func105, Tryd.ntmps105
      go_wp2_with fail
      go_ret
      exact ⟨ret_int HE.out.symm, rfl⟩
  case pos =>
    obtain ⟨b0, hb0⟩ : ∃ b, l[0]? = some b := ⟨l[0]'(by omega), List.getElem?_eq_getElem (by omega)⟩
    have hr0 := run_atL l 0 b0 hb0
    have hhd : l.head? = some b0 := by rw [List.head?_eq_getElem?]; exact hb0
    have hr1 : ∀ w, (Instr.index 9 (.string (byt l)) (.int .i64 0)).run Tryd.prog w = .ok (.int .u8 (b0.toNat : Nat)) w := hr0
    clear hr0
    have HAT := Lib.hid (fun j (h : j < L) => (⟨l[j]'(by omega), List.getElem?_eq_getElem (by omega)⟩ : ∃ b, l[j]? = some b))
    have HSTEP := Lib.hid (fun j b acc (h : l[j]? = some b) => pnF_at h acc)
    have HRUN := Lib.hid (fun k b h => run_atL l k b h)
    have HEND := Lib.hid (show ∀ acc, pnF acc (l.drop L) = some acc from fun acc => by rw [List.drop_eq_nil_of_le (by omega)]; rfl)
    have q0 : ¬ (L : Int) < 1 := by omega
    have q00 : ¬ 14 < (L : Int) := by omega
    have hL14 : (L : Int) ≤ 14 := by omega
    by_cases h45 : b0 = 45
    · have HE := Lib.hid (show pnL l = pnV true (pnF 0 (l.drop 1)) by rw [pnL, hL, if_pos h14, hhd, h45, if_pos rfl])
      have q1 : ((b0.toNat : Nat) : Int) = 45 := by rw [h45]; rfl
      have h1L : 1 ≤ L := h14.1
      clear hhd hb0 hL hl h45
      obtain ⟨V, hV⟩ : ∃ V, pnF 0 (l.drop 1) = V := ⟨_, rfl⟩
      rw [hV] at HE
      have HV := Lib.hid hV
      clear hV
      go_enter Tryd.func105, Tryd.ntmps105
      go_wp2_with fail
      go_loop [3, 5] (fun n i => ∃ (j : Nat) (acc : Int), 1 ≤ j ∧ j ≤ L ∧ i = .int .i64 j ∧ n = .int .i64 acc ∧ 0 ≤ acc ∧ acc < 10 ^ j ∧ pnF acc (l.drop j) = V) (fun _ i => L - (RowKit.intOf i).toNat)
      case atStart => exact ⟨1, 0, Nat.le_refl _, by omega, rfl, rfl, by omega, by decide, HV.out⟩
      case round =>
        obtain ⟨j, acc, hj0', hj, rfl, rfl, a0, a1, hv⟩ := hrel
        have ha6 : acc < 100000000000000 := by have := p10n (show j ≤ 14 by omega); omega
        by_cases hlt : j < L
        · obtain ⟨b, hb⟩ := HAT.out j hlt
          have hrun := HRUN.out j b hb
          have hs := HSTEP.out j b acc hb
          rw [hv] at hs
          have hlt2 : (j : Int) < (L : Int) := by omega
          have hj0 : (0 : Int) ≤ (j : Int) := by omega
          have hb8 : b.toNat < 256 := UInt8.toNat_lt b
          by_cases hd : 48 ≤ b.toNat ∧ b.toNat ≤ 57
          · rw [if_pos hd] at hs
            have HS := Lib.hid hs
            have d1 : ¬ ((b.toNat : Nat) : Int) < 48 := by omega
            have d2 : ¬ 57 < ((b.toNat : Nat) : Int) := by omega
            have d3 : IntKind.u8.wrap (((b.toNat : Nat) : Int) - 48) = ((b.toNat : Nat) : Int) - 48 := IntWalk.u8_in _ (by omega)
            have d4 : IntKind.i64.wrap (((b.toNat : Nat) : Int) - 48) = ((b.toNat : Nat) : Int) - 48 := IntWalk.i64_in _ (by omega)
            have d5 : IntKind.i64.wrap (10 * acc) = 10 * acc := IntWalk.i64_in _ (by omega)
            have d6 : IntKind.i64.wrap (10 * acc + (((b.toNat : Nat) : Int) - 48)) = 10 * acc + (((b.toNat : Nat) : Int) - 48) := IntWalk.i64_in _ (by omega)
            have HP : Hid (10 * acc + (((b.toNat : Nat) : Int) - 48) < 10 ^ (j + 1)) := Lib.hid (by rw [Int.pow_succ]; omega)
            clear hs hv hb hd a1 ha6
            go_wp2_with fail
            exact ⟨⟨j + 1, _, by omega, hlt, by go_num, rfl, by omega, HP.out, HS.out.symm⟩, by simp [RowKit.intOf]; omega⟩
          · rw [if_neg hd] at hs
            have HS := Lib.hid hs
            clear hv hs a1 ha6
            by_cases d1 : ((b.toNat : Nat) : Int) < 48
            · go_wp2_with fail
              go_ret
              exact ⟨ret_int (by rw [HE.out, HS.out]; rfl), rfl⟩
            · have d2 : 57 < ((b.toNat : Nat) : Int) := by omega
              go_wp2_with fail
              go_ret
              exact ⟨ret_int (by rw [HE.out, HS.out]; rfl), rfl⟩
        · obtain rfl : j = L := by omega
          have hlt2 : ¬ ((j : Int) < (j : Int)) := by omega
          have HS : Hid (V = some acc) := Lib.hid (by rw [← hv, HEND.out])
          clear hv a1
          have d7 : IntKind.i64.wrap (-acc) = -acc := IntWalk.i64_in _ (by omega)
          clear ha6
          go_wp2_with fail
          go_ret
          exact ⟨ret_int (by rw [HE.out, HS.out]; rfl), rfl⟩
    · have HE := Lib.hid (show pnL l = pnV false (pnF 0 l) by rw [pnL, hL, if_pos h14, hhd, if_neg (by simpa using h45)])
      have q1 : ¬ ((b0.toNat : Nat) : Int) = 45 := fun h => h45 (UInt8.toNat_inj.1 (by show b0.toNat = 45; omega))
      clear hhd hb0 hL hl h45
      obtain ⟨V, hV⟩ : ∃ V, pnF 0 l = V := ⟨_, rfl⟩
      rw [hV] at HE
      have HV := Lib.hid hV
      clear hV
      go_enter Tryd.func105, Tryd.ntmps105
      go_wp2_with fail
      go_loop [3, 5] (fun n i => ∃ (j : Nat) (acc : Int), 0 ≤ j ∧ j ≤ L ∧ i = .int .i64 j ∧ n = .int .i64 acc ∧ 0 ≤ acc ∧ acc < 10 ^ j ∧ pnF acc (l.drop j) = V) (fun _ i => L - (RowKit.intOf i).toNat)
      case atStart => exact ⟨0, 0, Nat.le_refl _, by omega, rfl, rfl, by omega, by decide, by rw [List.drop_zero]; exact HV.out⟩
      case round =>
        obtain ⟨j, acc, hj0', hj, rfl, rfl, a0, a1, hv⟩ := hrel
        have ha6 : acc < 100000000000000 := by have := p10n (show j ≤ 14 by omega); omega
        by_cases hlt : j < L
        · obtain ⟨b, hb⟩ := HAT.out j hlt
          have hrun := HRUN.out j b hb
          have hs := HSTEP.out j b acc hb
          rw [hv] at hs
          have hlt2 : (j : Int) < (L : Int) := by omega
          have hj0 : (0 : Int) ≤ (j : Int) := by omega
          have hb8 : b.toNat < 256 := UInt8.toNat_lt b
          by_cases hd : 48 ≤ b.toNat ∧ b.toNat ≤ 57
          · rw [if_pos hd] at hs
            have HS := Lib.hid hs
            have d1 : ¬ ((b.toNat : Nat) : Int) < 48 := by omega
            have d2 : ¬ 57 < ((b.toNat : Nat) : Int) := by omega
            have d3 : IntKind.u8.wrap (((b.toNat : Nat) : Int) - 48) = ((b.toNat : Nat) : Int) - 48 := IntWalk.u8_in _ (by omega)
            have d4 : IntKind.i64.wrap (((b.toNat : Nat) : Int) - 48) = ((b.toNat : Nat) : Int) - 48 := IntWalk.i64_in _ (by omega)
            have d5 : IntKind.i64.wrap (10 * acc) = 10 * acc := IntWalk.i64_in _ (by omega)
            have d6 : IntKind.i64.wrap (10 * acc + (((b.toNat : Nat) : Int) - 48)) = 10 * acc + (((b.toNat : Nat) : Int) - 48) := IntWalk.i64_in _ (by omega)
            have HP : Hid (10 * acc + (((b.toNat : Nat) : Int) - 48) < 10 ^ (j + 1)) := Lib.hid (by rw [Int.pow_succ]; omega)
            clear hs hv hb hd a1 ha6
            go_wp2_with fail
            exact ⟨⟨j + 1, _, by omega, hlt, by go_num, rfl, by omega, HP.out, HS.out.symm⟩, by simp [RowKit.intOf]; omega⟩
          · rw [if_neg hd] at hs
            have HS := Lib.hid hs
            clear hv hs a1 ha6
            by_cases d1 : ((b.toNat : Nat) : Int) < 48
            · go_wp2_with fail
              go_ret
              exact ⟨ret_int (by rw [HE.out, HS.out]; rfl), rfl⟩
            · have d2 : 57 < ((b.toNat : Nat) : Int) := by omega
              go_wp2_with fail
              go_ret
              exact ⟨ret_int (by rw [HE.out, HS.out]; rfl), rfl⟩
        · obtain rfl : j = L := by omega
          have hlt2 : ¬ ((j : Int) < (j : Int)) := by omega
          have HS : Hid (V = some acc) := Lib.hid (by rw [← hv, HEND.out])
          clear hv a1
          have d7 : IntKind.i64.wrap (-acc) = -acc := IntWalk.i64_in _ (by omega)
          clear ha6
          go_wp2_with fail
          go_ret
          exact ⟨ret_int (by rw [HE.out, HS.out]; rfl), rfl⟩
end Go.Proofs.YtgobjobppajkbaaDoor
