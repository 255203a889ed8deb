/-
  'SignsOf' of both.
-/
import Derived.Test.YtebbafapcknllaaSum
import Derived.Laws.IdiomStrings
import Derived.OwnWalk
namespace Go.Proofs.Ytebbafapcknllaa
open Go.RowKit
set_option linter.unusedVariables false

/-- The sign of a number: o or e. -/
def sgn (v : Int) : UInt8 := if oddB v = true then 111 else 101
/-- The signs of the first k numbers of a way. -/
def sgL (f : Int → Int) (n : Int) (k : Nat) : List UInt8 := (List.range k).map fun (i : Nat) => sgn (itr f i n)
theorem sgL_succ (f : Int → Int) (n : Int) (k : Nat) : sgL f n (k + 1) = sgL f n k ++ [sgn (itr f k n)] := by simp [sgL, List.range_succ]
theorem sgL_length (f : Int → Int) (n : Int) (k : Nat) : (sgL f n k).length = k := by simp [sgL]
def bytesOf (l : List UInt8) : ByteArray := ⟨l.toArray⟩
theorem bytesOf_add (w : World) (l : List UInt8) (b : UInt8) (h : l.length ≤ 1000) : (Op.stringOp .add (bytesOf l) ⟨#[b]⟩).run Try.prog w = .ok (.string (bytesOf (l ++ [b]))) w := by
  rw [run_string_add_sum w _ _ (by
    have h1 : (bytesOf l).size = l.length := by show l.toArray.size = _; simp
    have h2 : (ByteArray.mk #[b]).size = 1 := rfl
    omega)]
  have : bytesOf l ++ ⟨#[b]⟩ = bytesOf (l ++ [b]) := by
    unfold bytesOf
    rw [ByteArray.mk_append_mk]
  rw [this]
/-- What SignsOf comes to. -/
def sig (t p n k : Int) : ByteArray := if (aft t p (nx t p) n k).2 = true then bytesOf (sgL (nx t p) n k.toNat) else bytesOf []
theorem ret_str {x : ByteArray} {y z : Bool} {s : ByteArray} (h : x = s) (h' : y = z) : Ending.returned (.tuple #[.string s, .bool z]) = .returned (.tuple #[.string x, .bool y]) := by rw [h, h']

set_option maxRecDepth 100000 in
set_option maxHeartbeats 2000000 in
theorem sSignsOf (t p n k : Int) (w : World) :
    Calls Try.prog 11 #[.agg #[.int .i64 t, .int .i64 p], .int .i64 n, .int .i64 k] w fun e w' => e = .returned (.tuple #[.string (sig t p n k), .bool (aft t p (nx t p) n k).2]) ∧ Below w.heap.size w w' := by
  by_cases hask : askB t p n k = true
  · obtain ⟨hg, hn, hk0, hk1⟩ := askB_iff.1 hask
    obtain ⟨K, rfl⟩ : ∃ K : Nat, k = K := ⟨k.toNat, by omega⟩
    have hK : K ≤ 1000 := by omega
    have hK2 : (K : Int) ≤ 1000 := by omega
    have h2 : (aft t p (nx t p) n K).2 = allB (nx t p) n (K + 1) := by rw [aft_two, hask]; rfl
    have HG := Lib.hid hg
    have HN := Lib.hid hn
    by_cases hall : allB (nx t p) n (K + 1) = true
    · have hf : sig t p n K = bytesOf (sgL (nx t p) n K) := by rw [sig, if_pos (by rw [h2, hall])]; rfl
      have HF := Lib.hid hf
      have H2 := Lib.hid (h2.trans hall)
      have HALL := Lib.hid hall
      clear hall hf h2 hg hn
      go_enter Try.func11, Try.ntmps11
      go_wp2_with (go_at_call 37; refine (mpAsked_any _ _ _ _ _).mono ?_; rintro e w1 ⟨rfl, hb1⟩; obtain ⟨c0, c1, hz, hb⟩ := map_block hb1; clear hb1)
      refine (mpPath_yes t p n K _ HG.out HN.out hK HALL.out).mono ?_
      rintro e w2 ⟨g, cap, rfl, hrow, hb2⟩
      have hbb := hb.trans (hb2.mono (Nat.le_of_lt hz))
      have HR := Lib.hid hrow
      have hcap := hrow.cap.1
      have hcap2 := hrow.cap.2
      have hi0 : (K : Int) ≤ (cap : Int) := by omega
      have hi3 : (cap : Int) ≤ 9223372036854775807 := by unfold maxLen at hcap2; omega
      have hi4 : K ≤ cap := by omega
      clear hrow hb2 c0 c1 hcap2
      go_wp2_with fail
      go_loop [10, 31] (fun o i => ∃ j : Nat, j ≤ K ∧ i = .int .i64 j ∧ o = .string (bytesOf (sgL (nx t p) n j))) (fun _ i => K + 1 - (intOf i).toNat)
      case atStart => exact ⟨0, by omega, rfl, rfl⟩
      case round =>
        obtain ⟨j, hj, rfl, rfl⟩ := hrel
        by_cases hlt : j < K
        · have q := HR.out.cell (j := j) (by omega)
          have hi1 : (j : Int) < (K : Int) := by omega
          have hsl := sgL_length (nx t p) n j
          have hsn := sgL_succ (nx t p) n j
          obtain ⟨v, hv⟩ : ∃ v, v = itr (nx t p) j n := ⟨_, rfl⟩
          rw [← hv] at q hsn
          obtain ⟨l, hl⟩ : ∃ l, l = sgL (nx t p) n j := ⟨_, rfl⟩
          rw [← hl] at hsl hsn ⊢
          by_cases ho : oddB v = true
          · have hsg : sgn v = 111 := by rw [sgn, if_pos ho]
            rw [hsg] at hsn
            have hadd := bytesOf_add w2 l 111 (by omega)
            have ht : (v.tmod 2 != 0) = true := by rw [oddB_tmod, ho]
            have HSN := Lib.hid hsn
            clear hsn hsl hsg ho hv hl
            go_wp2
            exact ⟨⟨j + 1, hlt, by go_num, by rw [HSN.out]⟩, by simp [intOf]; omega⟩
          · have ho' : oddB v = false := by simpa using ho
            have hsg : sgn v = 101 := by rw [sgn, if_neg ho]
            rw [hsg] at hsn
            have hadd := bytesOf_add w2 l 101 (by omega)
            have ht : (v.tmod 2 != 0) = false := by rw [oddB_tmod, ho']
            have HSN := Lib.hid hsn
            clear hsn hsl hsg ho ho' hv hl
            go_wp2
            exact ⟨⟨j + 1, hlt, by go_num, by rw [HSN.out]⟩, by simp [intOf]; omega⟩
        · obtain rfl : j = K := by omega
          have hi1 : ¬ ((j : Int) < (j : Int)) := by omega
          go_wp2
          go_ret2
          exact ⟨ret_str HF.out H2.out, hbb⟩
    · have hall' : allB (nx t p) n (K + 1) = false := by simpa using hall
      have hf : sig t p n K = bytesOf [] := by rw [sig, h2, hall']; rfl
      have HF := Lib.hid hf
      have H2 := Lib.hid (h2.trans hall')
      have HALL := Lib.hid hall'
      clear hf hall hall' h2 hg hn
      go_enter Try.func11, Try.ntmps11
      go_wp2_with (go_at_call 37; refine (mpAsked_any _ _ _ _ _).mono ?_; rintro e w1 ⟨rfl, hb1⟩; obtain ⟨c0, c1, hz, hb⟩ := map_block hb1; clear hb1)
      refine (mpPath_no t p n K _ HG.out HN.out hK HALL.out).mono ?_
      rintro e w2 ⟨rfl, hb2⟩
      have hbb := hb.trans (hb2.mono (Nat.le_of_lt hz))
      clear hb2
      go_wp2_with fail
      go_ret2
      exact ⟨ret_str HF.out H2.out, hbb⟩
  · have ha' : askB t p n k = false := by simpa using hask
    have h2 : (aft t p (nx t p) n k).2 = false := by rw [aft_two, ha']; rfl
    have hf : sig t p n k = bytesOf [] := by rw [sig, h2]; rfl
    have HF := Lib.hid hf
    have H2 := Lib.hid h2
    clear hf hask h2
    go_enter Try.func11, Try.ntmps11
    go_wp2_with (go_at_call 37; refine (mpAsked_any _ _ _ _ _).mono ?_; rintro e w1 ⟨rfl, hb1⟩; obtain ⟨c0, c1, hz, hb⟩ := map_block hb1; clear hb1)
    go_ret2
    exact ⟨ret_str HF.out H2.out, hb⟩

theorem signOf_any (v : Int) (w : World) :
    Calls Try.prog 40 #[.int .i64 v] w fun e w' => e = .returned (.int .u8 ((sgn v).toNat : Int)) ∧ w = w' := by
  by_cases ho : oddB v = true
  · have hs : sgn v = 111 := by rw [sgn, if_pos ho]
    rw [hs]
    clear hs
    go_enter Try.func40, Try.ntmps40
    go_wp2_with (go_at_call 48; refine (isOdd_any _ _).mono ?_; rintro e w' ⟨rfl, rfl⟩)
    go_ret
    exact ⟨rfl, rfl⟩
  · have ho' : oddB v = false := by simpa using ho
    have hs : sgn v = 101 := by rw [sgn, if_neg ho]
    rw [hs]
    clear hs ho
    go_enter Try.func40, Try.ntmps40
    go_wp2_with (go_at_call 48; refine (isOdd_any _ _).mono ?_; rintro e w' ⟨rfl, rfl⟩)
    go_ret
    exact ⟨rfl, rfl⟩
end Go.Proofs.Ytebbafapcknllaa
