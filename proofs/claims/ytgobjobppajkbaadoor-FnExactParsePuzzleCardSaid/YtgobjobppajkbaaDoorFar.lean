/-
  THE GREATEST AND THE LEAST NUMBER OF A PATH: 'mpFar' of the model; 'slices.Max', 'slices.Min', 'slices.Index' of the library at slices of integers.
  'PeakOf' and 'LowOf' of both.
  'SignsOf' of both.
  'SignsOf' of the program.
  'OddSteps' of both.
-/
import Derived.Test.YtgobjobppajkbaaDoorPath
import Derived.WalkLawsBesides
import Derived.Laws.IdiomStrings
import Derived.OwnWalk
import Derived.Lib.Bytealg
import Derived.Laws.Externs
namespace Go.Proofs.YtgobjobppajkbaaDoor
open Go.RowKit
set_option linter.unusedVariables false

/-- Is x greater (s), or less, than y? -/
def bet (s : Bool) (x y : Int) : Bool := if s = true then decide (y < x) else decide (x < y)
/-- The first place of the greatest (least) of a 0 .. a k. -/
def far (s : Bool) (a : Nat → Int) : Nat → Nat
  | 0 => 0
  | k + 1 => if bet s (a (k + 1)) (a (far s a k)) = true then k + 1 else far s a k
theorem far_le (s : Bool) (a : Nat → Int) (k : Nat) : far s a k ≤ k := by
  induction k with
  | zero => exact Nat.le_refl _
  | succ k ih => rw [far]; split <;> omega
theorem far_best (s : Bool) (a : Nat → Int) (k : Nat) : (∀ j, j ≤ k → bet s (a j) (a (far s a k)) = false) ∧ ∀ j, j < far s a k → bet s (a (far s a k)) (a j) = true := by
  induction k with
  | zero =>
    refine ⟨fun j hj => ?_, fun j hj => absurd hj (by simp [far])⟩
    obtain rfl : j = 0 := by omega
    cases s <;> simp [bet, far]
  | succ k ih =>
    obtain ⟨h1, h2⟩ := ih
    rw [far]
    split
    · rename_i hb
      refine ⟨fun j hj => ?_, fun j hj => ?_⟩
      · by_cases e : j = k + 1
        · subst e; cases s <;> simp [bet]
        · have := h1 j (by omega)
          cases s <;> simp [bet] at * <;> omega
      · have := h1 j (by omega)
        cases s <;> simp [bet] at * <;> omega
    · rename_i hb
      refine ⟨fun j hj => ?_, h2⟩
      by_cases e : j = k + 1
      · subst e; simpa using hb
      · exact h1 j (by omega)

/-- The greatest (least) of a 0 .. a k. -/
def best (s : Bool) (a : Nat → Int) (k : Nat) : Int := a (far s a k)
theorem best_max (a : Nat → Int) (k : Nat) : best true a (k + 1) = if best true a k < a (k + 1) then a (k + 1) else best true a k := by
  unfold best
  rw [far, bet]
  by_cases h : a (far true a k) < a (k + 1)
  · simp [h]
  · simp [h]
theorem best_min (a : Nat → Int) (k : Nat) : best false a (k + 1) = if a (k + 1) < best false a k then a (k + 1) else best false a k := by
  unfold best
  rw [far, bet]
  by_cases h : a (k + 1) < a (far false a k)
  · simp [h]
  · simp [h]

end Go.Proofs.YtgobjobppajkbaaDoor

namespace Go.Proofs.YtgobjobppajkbaaDoor
open Go.RowKit
set_option linter.unusedVariables false

theorem ret_three {x : Int × Int × Bool} {a b : Int} {c : Bool} (h : x = (a, b, c)) : Ending.returned (.tuple #[.int .i64 a, .int .i64 b, .bool c]) = .returned (.tuple #[.int .i64 x.1, .int .i64 x.2.1, .bool x.2.2]) := by rw [h]
/-- The numbers of a way, one after the other. -/
def way (t p n : Int) : Nat → Int := fun j => itr (nx t p) j n
/-- What PeakOf (s) and LowOf come to. -/
def pk (s : Bool) (t p n k : Int) : Int × Int × Bool := if (aft t p (nx t p) n k).2 = true then (best s (way t p n) k.toNat, (far s (way t p n) k.toNat : Int), true) else (0, 0, false)
theorem far_first (s : Bool) (a : Nat → Int) (k j : Nat) (h : j < far s a k) : a j ≠ best s a k := by
  have := (far_best s a k).2 j h
  intro e
  rw [best] at e
  rw [e] at this
  cases s <;> simp [bet] at this

end Go.Proofs.YtgobjobppajkbaaDoor

namespace Go.Proofs.YtgobjobppajkbaaDoor
open Go.RowKit
set_option linter.unusedVariables false

/-- The sign of a number: o or e. -/
def sgn (v : Int) : UInt8 := if oddB v = true then 111 else 101
/-- The signs of the first k numbers of a way. -/
def sgL (f : Int → Int) (n : Int) (k : Nat) : List UInt8 := (List.range k).map fun (i : Nat) => sgn (itr f i n)
theorem sgL_succ (f : Int → Int) (n : Int) (k : Nat) : sgL f n (k + 1) = sgL f n k ++ [sgn (itr f k n)] := by simp [sgL, List.range_succ]
theorem sgL_length (f : Int → Int) (n : Int) (k : Nat) : (sgL f n k).length = k := by simp [sgL]
def bytesOf (l : List UInt8) : ByteArray := ⟨l.toArray⟩
theorem bytesOf_add (w : World) (l : List UInt8) (b : UInt8) (h : l.length ≤ 1000) : (Op.stringOp .add (bytesOf l) ⟨#[b]⟩).run Tryd.prog w = .ok (.string (bytesOf (l ++ [b]))) w := by
  rw [run_string_add_sum w _ _ (by
    have h1 : (bytesOf l).size = l.length := by show l.toArray.size = _; simp
    have h2 : (ByteArray.mk #[b]).size = 1 := rfl
    omega)]
  have : bytesOf l ++ ⟨#[b]⟩ = bytesOf (l ++ [b]) := by
    unfold bytesOf
    rw [ByteArray.mk_append_mk]
  rw [this]
/-- What SignsOf comes to. -/
def sig (t p n k : Int) : ByteArray := if (aft t p (nx t p) n k).2 = true then bytesOf (sgL (nx t p) n k.toNat) else bytesOf []
theorem ret_str {x : ByteArray} {y z : Bool} {s : ByteArray} (h : x = s) (h' : y = z) : Ending.returned (.tuple #[.string s, .bool z]) = .returned (.tuple #[.string x, .bool y]) := by rw [h, h']

theorem signOf_any (v : Int) (w : World) :
    Calls Tryd.prog 130 #[.int .i64 v] w fun e w' => e = .returned (.int .u8 ((sgn v).toNat : Int)) ∧ w = w' := by
  by_cases ho : oddB v = true
  · have hs : sgn v = 111 := by rw [sgn, if_pos ho]
    rw [hs]
    clear hs
    go_enter Tryd.func130, Tryd.ntmps130
    go_wp2_with (go_at_call 76; refine (isOdd_any _ _).mono ?_; rintro e w' ⟨rfl, rfl⟩)
    go_ret
    exact ⟨rfl, rfl⟩
  · have ho' : oddB v = false := by simpa using ho
    have hs : sgn v = 101 := by rw [sgn, if_neg ho]
    rw [hs]
    clear hs ho
    go_enter Tryd.func130, Tryd.ntmps130
    go_wp2_with (go_at_call 76; refine (isOdd_any _ _).mono ?_; rintro e w' ⟨rfl, rfl⟩)
    go_ret
    exact ⟨rfl, rfl⟩
end Go.Proofs.YtgobjobppajkbaaDoor

namespace Go.Proofs.YtgobjobppajkbaaDoor
open Go.RowKit
set_option linter.unusedVariables false

theorem info5 : (Tryd.prog.info? 5).map (fun i => (i.zero, i.size, i.bytes)) = some (some (.int .u8 0), 1, 1) := by kernel_rfl

/-- A row that was just made holds zeros. -/
theorem made_zero (z : Value) (n : Nat) {j : Nat} (h : j < n * 1) (hz : z.cells = #[z] := by rfl) : ((madeCells z.cells (n * 1)).toList)[j]? = some z := by
  rw [hz]
  simp [madeCells]
  exact ⟨j, List.getElem?_range (by omega), by rw [Nat.mod_one]; rfl⟩

end Go.Proofs.YtgobjobppajkbaaDoor

namespace Go.Proofs.YtgobjobppajkbaaDoor
open Go.RowKit
set_option linter.unusedVariables false

/-- How many of the first k numbers of a way are odd. -/
def ods (f : Int → Int) (n : Int) : Nat → Nat
  | 0 => 0
  | k + 1 => ods f n k + if oddB (itr f k n) = true then 1 else 0
theorem ods_le (f : Int → Int) (n : Int) (k : Nat) : ods f n k ≤ k := by
  induction k with
  | zero => simp [ods]
  | succ k ih => rw [ods]; split <;> omega
theorem ods_sgL (f : Int → Int) (n : Int) (k : Nat) : Lib.countByte (sgL f n k) 111 = ods f n k := by
  unfold Lib.countByte
  induction k with
  | zero => simp [sgL, ods]
  | succ k ih =>
    rw [sgL_succ, List.count_append, ih, ods]
    unfold sgn
    split <;> rfl
theorem bytesOf_list (l : List UInt8) : (bytesOf l).data.toList = l := rfl
/-- What OddSteps comes to. -/
def odd (t p n k : Int) : Nat := if (aft t p (nx t p) n k).2 = true then ods (nx t p) n k.toNat else 0
theorem odd_sig (t p n k : Int) : Lib.countByte (sig t p n k).data.toList 111 = odd t p n k := by
  unfold sig odd
  split
  · rw [bytesOf_list, ods_sgL]
  · rfl
theorem ret_nat {x : Nat} {y z : Bool} {s : Nat} (h : x = s) (h' : y = z) : Ending.returned (.tuple #[.int .i64 (s : Int), .bool z]) = .returned (.tuple #[.int .i64 (x : Int), .bool y]) := by rw [h, h']

end Go.Proofs.YtgobjobppajkbaaDoor
