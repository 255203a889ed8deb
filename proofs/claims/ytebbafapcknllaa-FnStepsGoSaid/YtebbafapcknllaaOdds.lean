/-
  'OddSteps' of both.
-/
import Derived.Test.YtebbafapcknllaaSignsI
import Derived.Lib.Bytealg
import Derived.Laws.Externs
namespace Go.Proofs.Ytebbafapcknllaa
open Go.RowKit
set_option linter.unusedVariables false

/-- How many of the first k numbers of a way are odd. -/
def ods (f : Int → Int) (n : Int) : Nat → Nat
  | 0 => 0
  | k + 1 => ods f n k + if oddB (itr f k n) = true then 1 else 0
theorem ods_le (f : Int → Int) (n : Int) (k : Nat) : ods f n k ≤ k := by
  induction k with
  | zero => simp [ods]
  | succ k ih => rw [ods]; split <;> omega
theorem ods_sgL (f : Int → Int) (n : Int) (k : Nat) : Lib.countByte (sgL f n k) 111 = ods f n k := by
  unfold Lib.countByte
  induction k with
  | zero => simp [sgL, ods]
  | succ k ih =>
    rw [sgL_succ, List.count_append, ih, ods]
    unfold sgn
    split <;> rfl
theorem bytesOf_list (l : List UInt8) : (bytesOf l).data.toList = l := rfl
/-- What OddSteps comes to. -/
def odd (t p n k : Int) : Nat := if (aft t p (nx t p) n k).2 = true then ods (nx t p) n k.toNat else 0
theorem odd_sig (t p n k : Int) : Lib.countByte (sig t p n k).data.toList 111 = odd t p n k := by
  unfold sig odd
  split
  · rw [bytesOf_list, ods_sgL]
  · rfl
theorem ret_nat {x : Nat} {y z : Bool} {s : Nat} (h : x = s) (h' : y = z) : Ending.returned (.tuple #[.int .i64 (s : Int), .bool z]) = .returned (.tuple #[.int .i64 (x : Int), .bool y]) := by rw [h, h']

set_option maxRecDepth 100000 in
theorem count_any (s : ByteArray) (w : World) :
    Calls Try.prog 41 #[.string s, .string ⟨#[111]⟩] w fun e w' => e = .returned (.int .i64 (Lib.countByte s.data.toList 111 : Nat)) ∧ w' = w := by
  go_enter Try.func41, Try.ntmps41
  go_wp2
  rw [run_callFunc_extern Try.func63 (by kernel_rfl) (by kernel_rfl) (by kernel_rfl) (e := Extern.BytealgCount.count) (by kernel_rfl), Lib.run_countString]
  simp only [Result.andThen]
  rw [Oper.upon_value]
  go_wp2
  go_ret
  exact ⟨rfl, rfl⟩

set_option maxRecDepth 100000 in
set_option maxHeartbeats 2000000 in
theorem iOddSteps (t p n k : Int) (w : World) :
    Calls Try.prog 12 #[.agg #[.int .i64 t, .int .i64 p], .int .i64 n, .int .i64 k] w fun e w' => e = .returned (.tuple #[.int .i64 (odd t p n k : Nat), .bool (aft t p (nx t p) n k).2]) ∧ Below w.heap.size w w' := by
  have hs := odd_sig t p n k
  have HS := Lib.hid hs
  clear hs
  go_enter Try.func12, Try.ntmps12
  go_wp2_with fail
  refine (iSignsOf t p n k _).mono ?_
  rintro e w2 ⟨rfl, hb2⟩
  generalize hsg : sig t p n k = s at HS ⊢
  clear hsg
  go_wp2_with fail
  refine (count_any _ _).mono ?_
  rintro e w3 ⟨rfl, rfl⟩
  rw [HS.out]
  go_wp2_with fail
  go_ret2
  exact ⟨rfl, ((Below.refl _ w).alloc (Nat.le_refl _) _).trans (hb2.mono (by simp))⟩

set_option maxRecDepth 100000 in
set_option maxHeartbeats 2000000 in
theorem sOddSteps (t p n k : Int) (w : World) :
    Calls Try.prog 13 #[.agg #[.int .i64 t, .int .i64 p], .int .i64 n, .int .i64 k] w fun e w' => e = .returned (.tuple #[.int .i64 (odd t p n k : Nat), .bool (aft t p (nx t p) n k).2]) ∧ Below w.heap.size w w' := by
  by_cases hask : askB t p n k = true
  · obtain ⟨hg, hn, hk0, hk1⟩ := askB_iff.1 hask
    obtain ⟨K, rfl⟩ : ∃ K : Nat, k = K := ⟨k.toNat, by omega⟩
    have hK : K ≤ 1000 := by omega
    have hK2 : (K : Int) ≤ 1000 := by omega
    have h2 : (aft t p (nx t p) n K).2 = allB (nx t p) n (K + 1) := by rw [aft_two, hask]; rfl
    have HG := Lib.hid hg
    have HN := Lib.hid hn
    by_cases hall : allB (nx t p) n (K + 1) = true
    · have hf : odd t p n K = ods (nx t p) n K := by rw [odd, if_pos (by rw [h2, hall])]; rfl
      have HF := Lib.hid hf
      have H2 := Lib.hid (h2.trans hall)
      have HALL := Lib.hid hall
      clear hall hf h2 hg hn
      go_enter Try.func13, Try.ntmps13
      go_wp2_with (go_at_call 37; refine (mpAsked_any _ _ _ _ _).mono ?_; rintro e w1 ⟨rfl, hb1⟩; obtain ⟨c0, c1, hz, hb⟩ := map_block hb1; clear hb1)
      refine (mpPath_yes t p n K _ HG.out HN.out hK HALL.out).mono ?_
      rintro e w2 ⟨g, cap, rfl, hrow, hb2⟩
      have hbb := hb.trans (hb2.mono (Nat.le_of_lt hz))
      have HR := Lib.hid hrow
      have hcap := hrow.cap.1
      have hcap2 := hrow.cap.2
      have hi0 : (K : Int) ≤ (cap : Int) := by omega
      have hi3 : (cap : Int) ≤ 9223372036854775807 := by unfold maxLen at hcap2; omega
      have hi4 : K ≤ cap := by omega
      clear hrow hb2 c0 c1 hcap2
      go_wp2_with fail
      go_loop [10, 31] (fun o i => ∃ j : Nat, j ≤ K ∧ i = .int .i64 j ∧ o = .int .i64 (ods (nx t p) n j : Nat)) (fun _ i => K + 1 - (intOf i).toNat)
      case atStart => exact ⟨0, by omega, rfl, rfl⟩
      case round =>
        obtain ⟨j, hj, rfl, rfl⟩ := hrel
        by_cases hlt : j < K
        · have q := HR.out.cell (j := j) (by omega)
          have hi1 : (j : Int) < (K : Int) := by omega
          have hle := ods_le (nx t p) n j
          have hle2 : ((ods (nx t p) n j : Nat) : Int) ≤ 1000 := by omega
          have hsn : ods (nx t p) n (j + 1) = ods (nx t p) n j + if oddB (itr (nx t p) j n) = true then 1 else 0 := rfl
          obtain ⟨v, hv⟩ : ∃ v, v = itr (nx t p) j n := ⟨_, rfl⟩
          rw [← hv] at q hsn
          obtain ⟨l, hl⟩ : ∃ l, l = ods (nx t p) n j := ⟨_, rfl⟩
          rw [← hl] at hle hle2 hsn ⊢
          by_cases ho : oddB v = true
          · rw [if_pos ho] at hsn
            have ht : (v.tmod 2 != 0) = true := by rw [oddB_tmod, ho]
            have HSN := Lib.hid hsn
            clear hsn ho hv hl hle
            go_wp2
            exact ⟨⟨j + 1, hlt, by go_num, by rw [HSN.out]; go_num⟩, by simp [intOf]; omega⟩
          · rw [if_neg ho] at hsn
            have ho' : oddB v = false := by simpa using ho
            have ht : (v.tmod 2 != 0) = false := by rw [oddB_tmod, ho']
            have HSN := Lib.hid hsn
            clear hsn ho ho' hv hl hle
            go_wp2
            exact ⟨⟨j + 1, hlt, by go_num, by rw [HSN.out]; rfl⟩, by simp [intOf]; omega⟩
        · obtain rfl : j = K := by omega
          have hi1 : ¬ ((j : Int) < (j : Int)) := by omega
          go_wp2
          go_ret2
          exact ⟨ret_nat HF.out H2.out, hbb⟩
    · have hall' : allB (nx t p) n (K + 1) = false := by simpa using hall
      have hf : odd t p n K = 0 := by rw [odd, h2, hall']; rfl
      have HF := Lib.hid hf
      have H2 := Lib.hid (h2.trans hall')
      have HALL := Lib.hid hall'
      clear hf hall hall' h2 hg hn
      go_enter Try.func13, Try.ntmps13
      go_wp2_with (go_at_call 37; refine (mpAsked_any _ _ _ _ _).mono ?_; rintro e w1 ⟨rfl, hb1⟩; obtain ⟨c0, c1, hz, hb⟩ := map_block hb1; clear hb1)
      refine (mpPath_no t p n K _ HG.out HN.out hK HALL.out).mono ?_
      rintro e w2 ⟨rfl, hb2⟩
      have hbb := hb.trans (hb2.mono (Nat.le_of_lt hz))
      clear hb2
      go_wp2_with fail
      go_ret2
      exact ⟨ret_nat HF.out H2.out, hbb⟩
  · have ha' : askB t p n k = false := by simpa using hask
    have h2 : (aft t p (nx t p) n k).2 = false := by rw [aft_two, ha']; rfl
    have hf : odd t p n k = 0 := by rw [odd, h2]; rfl
    have HF := Lib.hid hf
    have H2 := Lib.hid h2
    clear hf hask h2
    go_enter Try.func13, Try.ntmps13
    go_wp2_with (go_at_call 37; refine (mpAsked_any _ _ _ _ _).mono ?_; rintro e w1 ⟨rfl, hb1⟩; obtain ⟨c0, c1, hz, hb⟩ := map_block hb1; clear hb1)
    go_ret2
    exact ⟨ret_nat HF.out H2.out, hb⟩
end Go.Proofs.Ytebbafapcknllaa
