/-
  WHAT A NUMBER NEEDS: 'reNeeds', 'StepsNeeded', 'reLimit', 'reList' of the model, 'StepsNeeded' of the program.
-/
import Derived.Test.YtjcpdlamgjpmmaeCycS
import Derived.Test.YtjcpdlamgjpmmaeLost
import Derived.Test.YtjcpdlamgjpmmaeSpec2
import Derived.Deep.RegionWith
namespace Go.Proofs.Ytjcpdlamgjpmmae
open Go.RowKit
set_option linter.unusedVariables false

/-- Behind how many steps a number first comes to the least one of its cycle, or -1. -/
def needN (t p n : Int) : Int := match cyA t p n with
  | some (K, i) => ((i + leastJ (nx t p) n K i : Nat) : Int)
  | none => -1
theorem needN_some {t p n : Int} {K i : Nat} (h : cyA t p n = some (K, i)) : needN t p n = ((i + leastJ (nx t p) n K i : Nat) : Int) := by rw [needN, h]
theorem needN_none {t p n : Int} (h : cyA t p n = none) : needN t p n = -1 := by rw [needN, h]
theorem needN_bound (t p n : Int) : -1 ≤ needN t p n ∧ needN t p n ≤ 1000 := by
  cases h : cyA t p n with
  | none => rw [needN_none h]; decide
  | some x =>
    obtain ⟨K, i⟩ := x
    have hF := (cyA_some h).2.2
    have h1 := leastJ_lt (f := nx t p) (n := n) hF.lt
    have h2 := hF.le
    rw [needN_some h]
    omega
theorem needN_neg {t p n : Int} : needN t p n = -1 ↔ cyA t p n = none := by
  constructor
  · intro e
    cases h : cyA t p n with
    | none => rfl
    | some x => obtain ⟨K, i⟩ := x; rw [needN_some h] at e; omega
  · exact needN_none
/-- The first number of the cycle told from its least number on. -/
theorem cyL_head {t p n : Int} {K i : Nat} (h : cyA t p n = some (K, i)) : (cyL t p n).getD 0 0 = itr (nx t p) (i + leastJ (nx t p) n K i) n := by
  have hF := (cyA_some h).2.2
  have := hF.lt
  rw [cyL_some h, cycT, cycFrom, List.getD_eq_getElem?_getD, List.getElem?_map, List.getElem?_range (by omega)]
  rfl
theorem sto_need {t p n : Int} {K i : Nat} (h : cyA t p n = some (K, i)) : sto t p n (itr (nx t p) (i + leastJ (nx t p) n K i) n) = (needN t p n, true) := by
  obtain ⟨hg, _, hF⟩ := cyA_some h
  have h1 := leastJ_lt (f := nx t p) (n := n) hF.lt
  have h2 := hF.le
  obtain ⟨P, hP⟩ : ∃ P, i + leastJ (nx t p) n K i = P := ⟨_, rfl⟩
  have hPK : P < K := by omega
  rw [needN_some h, hP]
  refine hit_some (pre := upto (nx t p) n P) (x := ((P : Int), itr (nx t p) P n)) ?_ (by simp) ?_
  · intro y hy
    obtain ⟨j, hj, rfl⟩ := mem_upto hy
    simpa using hF.diff j P hj hPK
  · rw [← upto_succ, seqOf, if_pos hg]
    exact upto_prefix _ _ ((lt_cnt _ _ _ _).2 ⟨by omega, allB_le (by omega) hF.all⟩)

/-- What StepsNeeded comes to. -/
def ndA (t p n : Int) : Int := if (cyA t p n).isSome = true then needN t p n else 0
theorem ret_nd {x : Int} {f : Bool} {a : Int} {g : Bool} (h : x = a) (h' : f = g) : Ending.returned (.tuple #[.int .i64 a, .bool g]) = .returned (.tuple #[.int .i64 x, .bool f]) := by rw [h, h']
theorem reLimit_any (t p k : Int) (w : World) :
    Calls Try.prog 29 #[.agg #[.int .i64 t, .int .i64 p], .int .i64 k] w fun e w' => e = .returned (.bool (askL t p k)) ∧ Below w.heap.size w w' := by
  have HM := Lib.hid (fun w => mpGood_any t p w)
  have HI := Lib.hid (fun w => l1In_any k 1 300 w)
  cases hg : goodB t p
  · have HA : Hid (askL t p k = false) := Lib.hid (by rw [askL, hg]; rfl)
    rw [hg] at HM
    clear hg
    go_enter Try.func29, Try.ntmps29
    go_wp2_with fail
    refine (HM.out _).mono ?_
    rintro e w1 ⟨rfl, hb1⟩
    obtain ⟨c0, c1, hz, hb⟩ := map_block hb1
    clear hb1
    go_wp2_with fail
    go_ret
    exact ⟨ret_bool HA.out.symm, hb⟩
  · have HA : Hid (askL t p k = inB k 1 300) := Lib.hid (by rw [askL, hg]; rfl)
    rw [hg] at HM
    clear hg
    go_enter Try.func29, Try.ntmps29
    go_wp2_with fail
    refine (HM.out _).mono ?_
    rintro e w1 ⟨rfl, hb1⟩
    obtain ⟨c0, c1, hz, hb⟩ := map_block hb1
    clear hb1
    go_wp2_with (go_at_call 49; refine (HI.out _).mono ?_; rintro e w' ⟨rfl, rfl⟩)
    go_ret
    exact ⟨ret_bool HA.out.symm, hb⟩

/-- What the numbers 1, 2, .. have. -/
def tabL (g : Int → Int) (K : Nat) : List Int := (List.range K).map fun (j : Nat) => g ((j : Int) + 1)
theorem tabL_length (g : Int → Int) (K : Nat) : (tabL g K).length = K := by simp [tabL]
theorem tabL_succ (g : Int → Int) (K : Nat) : tabL g (K + 1) = tabL g K ++ [g ((K : Int) + 1)] := by simp [tabL, List.range_succ]
theorem tabL_at {g : Int → Int} {K j : Nat} (h : j < K) : (tabL g K).getD j 0 = g ((j : Int) + 1) := by
  simp [tabL, List.getD_eq_getElem?_getD, h]
/-- If there are a map and a limit. -/
def tabA (g : Int → Int → Int → Int) (t p k : Int) : List Int := if askL t p k = true then tabL (g t p) k.toNat else []
theorem tabA_no {g : Int → Int → Int → Int} {t p k : Int} (h : askL t p k = false) : tabA g t p k = [] := by rw [tabA, if_neg (by simp [h])]
theorem tabA_yes {g : Int → Int → Int → Int} {t p : Int} {K : Nat} (h : askL t p K = true) : tabA g t p K = tabL (g t p) K := by rw [tabA, if_pos h]; rfl
theorem askL_yes {t p k : Int} (h : askL t p k = true) : ∃ K : Nat, k = K ∧ 1 ≤ K ∧ K ≤ 300 ∧ goodB t p = true := by
  simp only [askL, inB, Bool.and_eq_true, decide_eq_true_eq] at h
  exact ⟨k.toNat, by omega, by omega, by omega, h.1⟩
theorem tabA_len (g : Int → Int → Int → Int) (t p k : Int) : (tabA g t p k).length ≤ 300 := by
  unfold tabA
  split
  · rename_i h
    obtain ⟨K, rfl, _, h2, _⟩ := askL_yes h
    rw [tabL_length]
    exact h2
  · simp
/-- What a call that makes a list hands back. -/
def RetList (xs : List Int) (w : World) (e : Ending) (w' : World) : Prop := ∃ v, e = .returned v ∧ IntsAt w' w.heap.size v xs ∧ Below w.heap.size w w'

end Go.Proofs.Ytjcpdlamgjpmmae
