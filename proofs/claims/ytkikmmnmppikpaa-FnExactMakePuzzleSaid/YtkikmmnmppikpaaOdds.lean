/-
  'OddSteps' of both.
-/
import Derived.Test.YtkikmmnmppikpaaSignsI
import Derived.Lib.Bytealg
import Derived.Laws.Externs
namespace Go.Proofs.Ytkikmmnmppikpaa
open Go.RowKit
set_option linter.unusedVariables false

/-- How many of the first k numbers of a way are odd. -/
def ods (f : Int → Int) (n : Int) : Nat → Nat
  | 0 => 0
  | k + 1 => ods f n k + if oddB (itr f k n) = true then 1 else 0
theorem ods_le (f : Int → Int) (n : Int) (k : Nat) : ods f n k ≤ k := by
  induction k with
  | zero => simp [ods]
  | succ k ih => rw [ods]; split <;> omega
theorem ods_sgL (f : Int → Int) (n : Int) (k : Nat) : Lib.countByte (sgL f n k) 111 = ods f n k := by
  unfold Lib.countByte
  induction k with
  | zero => simp [sgL, ods]
  | succ k ih =>
    rw [sgL_succ, List.count_append, ih, ods]
    unfold sgn
    split <;> rfl
theorem bytesOf_list (l : List UInt8) : (bytesOf l).data.toList = l := rfl
/-- What OddSteps comes to. -/
def odd (t p n k : Int) : Nat := if (aft t p (nx t p) n k).2 = true then ods (nx t p) n k.toNat else 0
theorem odd_sig (t p n k : Int) : Lib.countByte (sig t p n k).data.toList 111 = odd t p n k := by
  unfold sig odd
  split
  · rw [bytesOf_list, ods_sgL]
  · rfl
theorem ret_nat {x : Nat} {y z : Bool} {s : Nat} (h : x = s) (h' : y = z) : Ending.returned (.tuple #[.int .i64 (s : Int), .bool z]) = .returned (.tuple #[.int .i64 (x : Int), .bool y]) := by rw [h, h']

set_option maxRecDepth 100000 in
theorem count_any (s : ByteArray) (w : World) :
    Calls Try.prog 109 #[.string s, .string ⟨#[111]⟩] w fun e w' => e = .returned (.int .i64 (Lib.countByte s.data.toList 111 : Nat)) ∧ w' = w := by
  go_enter Try.func109, Try.ntmps109
  go_wp2
  rw [run_callFunc_extern Try.func115 (by kernel_rfl) (by kernel_rfl) (by kernel_rfl) (e := Extern.BytealgCount.count) (by kernel_rfl), Lib.run_countString]
  simp only [Result.andThen]
  rw [Oper.upon_value]
  go_wp2
  go_ret
  exact ⟨rfl, rfl⟩

set_option maxRecDepth 100000 in
set_option maxHeartbeats 2000000 in
theorem iOddSteps (t p n k : Int) (w : World) :
    Calls Try.prog 104 #[.agg #[.int .i64 t, .int .i64 p], .int .i64 n, .int .i64 k] w fun e w' => e = .returned (.tuple #[.int .i64 (odd t p n k : Nat), .bool (aft t p (nx t p) n k).2]) ∧ Below w.heap.size w w' := by
  have hs := odd_sig t p n k
  have HS := Lib.hid hs
  clear hs
  go_enter Try.func104, Try.ntmps104
  go_wp2_with fail
  refine (iSignsOf t p n k _).mono ?_
  rintro e w2 ⟨rfl, hb2⟩
  generalize hsg : sig t p n k = s at HS ⊢
  clear hsg
  go_wp2_with fail
  refine (count_any _ _).mono ?_
  rintro e w3 ⟨rfl, rfl⟩
  rw [HS.out]
  go_wp2_with fail
  go_ret2
  exact ⟨rfl, ((Below.refl _ w).alloc (Nat.le_refl _) _).trans (hb2.mono (by simp))⟩

end Go.Proofs.Ytkikmmnmppikpaa
