/-
  'LeastOfLevel', 'CountOddOfLevel', 'BarrenOfLevel', 'IsInLevel' of both.
-/
import Derived.Test.YtjcpdlamgjpmmaaLevJ
import Derived.Test.YtjcpdlamgjpmmaaLevS
import Derived.Test.YtjcpdlamgjpmmaaBarren
namespace Go.Proofs.Ytjcpdlamgjpmmaa
open Go.RowKit Go.Maps
set_option linter.unusedVariables false

theorem lvX_false {short : Bool} {t p r k : Int} (h : lvB short t p r k = false) : lvX short t p r k = [] := by
  unfold lvB at h
  unfold lvX
  cases ho : lvO short t p r k with
  | none => rfl
  | some xs => rw [ho] at h; cases h
theorem lvX_num {short : Bool} {t p r k x : Int} (h : x ∈ lvX short t p r k) : goodB t p = true ∧ numB x = true := by
  unfold lvX at h
  cases ho : lvO short t p r k with
  | none => rw [ho] at h; simp at h
  | some xs =>
    rw [ho] at h
    obtain ⟨_, hg, hr, K, rfl, _, hl⟩ := lvO_some ho
    exact ⟨hg, levL_num hg hr hl h⟩
theorem lvX_len (short : Bool) (t p r k : Int) : (lvX short t p r k).length ≤ 2000 := lvO_len
/-- The least number of a level. -/
def llX (t p r k : Int) : Int := (lvX false t p r k).headD 0
def llB (t p r k : Int) : Bool := !(lvX false t p r k).isEmpty
/-- How many odd numbers a level has; its barren ones. -/
def coX (t p r k : Int) : Int := (((lvX false t p r k).filter oddB).length : Int)
def baX (t p r k : Int) : List Int := (lvX false t p r k).filter (barP t p)
theorem baX_len (t p r k : Int) : (baX t p r k).length ≤ 1000000000000 := by
  have h1 := lvX_len false t p r k
  have h2 := List.length_filter_le (barP t p) (lvX false t p r k)
  unfold baX
  omega
theorem take_filter {P : Int → Bool} {xs : List Int} {m : Nat} (h : m < xs.length) : (xs.take (m + 1)).filter P = (xs.take m).filter P ++ if P (xs.getD m 0) = true then [xs.getD m 0] else [] := by
  rw [List.take_add_one, List.getElem?_eq_getElem h, List.filter_append, List.getD_eq_getElem?_getD, List.getElem?_eq_getElem h]
  simp only [Option.toList_some, Option.getD_some, List.filter_cons, List.filter_nil]
/-- Is a number in a level? -/
def inX (t p r k n : Int) : Bool := lvB false t p r k && numB n && decide (n ∈ lvX false t p r k)
def inY (t p r k n : Int) : Bool := lvB false t p r k && numB n

theorem l1Has_empty (x : Int) (a : Option Addr) (cap : Nat) (w : World) :
    Calls Try.prog 53 #[.slice a 0 cap, .int .i64 x] w fun e w' => e = .returned (.bool false) ∧ w = w' := by
  go_enter Try.func53, Try.ntmps53
  go_wp2_with fail
  refine wp_loop_rounds 1 ?_
  rw [rounds_succ]
  go_wp2
  go_ret
  exact ⟨rfl, rfl⟩
theorem l1Has_at {w : World} {B : Nat} {v : Value} {xs : List Int} (x : Int) (h : IntsAt w B v xs) (hl : xs.length ≤ 100000) :
    Calls Try.prog 53 #[v, .int .i64 x] w fun e w' => e = .returned (.bool (decide (x ∈ xs))) ∧ w = w' := by
  by_cases hn : 0 < xs.length
  · obtain ⟨g, cap, rfl, _, _, _, _, hr⟩ := ints_row h hn
    exact l1Has_row xs x g cap w hl hr
  · obtain rfl : xs = [] := List.eq_nil_of_length_eq_zero (by omega)
    obtain ⟨a, cap, rfl⟩ := h.form
    simpa using l1Has_empty x a cap w

set_option maxRecDepth 100000 in
set_option maxHeartbeats 4000000 in
theorem sIsInLevel (t p r k n : Int) (w : World) :
    Calls Try.prog 19 #[.agg #[.int .i64 t, .int .i64 p], .int .i64 r, .int .i64 k, .int .i64 n] w fun e w' => e = .returned (.tuple #[.bool (inX t p r k n), .bool (inY t p r k n)]) ∧ Below w.heap.size w w' := by
  have HL := Lib.hid (fun w => trLevel_any false t p r k w)
  have HX : Hid (inX t p r k n = (lvB false t p r k && numB n && decide (n ∈ lvX false t p r k))) := Lib.hid rfl
  have HY : Hid (inY t p r k n = (lvB false t p r k && numB n)) := Lib.hid rfl
  have hlen := lvX_len false t p r k
  generalize inX t p r k n = a at HX ⊢
  generalize inY t p r k n = b at HY ⊢
  generalize lvX false t p r k = xs at *
  generalize lvB false t p r k = ok at *
  go_enter Try.func19, Try.ntmps19
  go_wp2_with fail
  refine (HL.out _).mono ?_
  rintro e w1 ⟨v, rfl, hrow, hb1⟩
  obtain ⟨c0, c1, hz, hb⟩ := map_block hb1
  clear hb1
  have HB := Lib.hid hb
  have HH := Lib.hid (l1Has_at n hrow (by omega))
  generalize decide (n ∈ xs) = d at HX HH
  obtain ⟨va, vc, rfl⟩ := hrow.form
  clear hb hrow HL c0 c1
  cases ok
  · obtain rfl : a = false := HX.out
    obtain rfl : b = false := HY.out
    go_wp2_with fail
    go_ret2
    exact ⟨rfl, HB.out⟩
  · have HI : Hid (∀ w, Calls Try.prog 36 #[.int .i64 n] w fun e w' => e = .returned (.bool (numB n)) ∧ w = w') := Lib.hid fun w => mpIs_any n w
    cases hn : numB n
    · obtain rfl : a = false := by rw [HX.out, hn]; rfl
      obtain rfl : b = false := by rw [HY.out, hn]; rfl
      rw [hn] at HI
      clear hn
      go_wp2_with (go_at_call 36; refine (HI.out _).mono ?_; rintro e w' ⟨rfl, rfl⟩)
      go_ret2
      exact ⟨rfl, HB.out⟩
    · obtain rfl : a = d := by rw [HX.out, hn]; rfl
      obtain rfl : b = true := by rw [HY.out, hn]; rfl
      rw [hn] at HI
      clear hn
      go_wp2_with (first
        | (go_at_call 36; refine (HI.out _).mono ?_; rintro e w' ⟨rfl, rfl⟩)
        | (go_at_call 53; refine HH.out.mono ?_; rintro e w' ⟨rfl, rfl⟩))
      go_ret2
      exact ⟨rfl, HB.out⟩
end Go.Proofs.Ytjcpdlamgjpmmaa
