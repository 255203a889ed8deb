/-
  PATHS THAT MERGE: 'PathsMerge', 'MergeSteps' of both.
-/
import Derived.Test.YtjcpdlamgjpmmafPeak5
namespace Go.Proofs.Ytjcpdlamgjpmmaf
open Go.RowKit Go.Shelf
set_option linter.unusedVariables false

/-- The first place among the first K at which v is. -/
def pos2 (y : Nat → Int) (K : Nat) (v : Int) : Option Nat := (List.range K).find? fun (k : Nat) => y k == v
theorem pos2_some {y : Nat → Int} {K : Nat} {v : Int} {k : Nat} (h : pos2 y K v = some k) : k < K ∧ y k = v := by
  have h1 := List.find?_some h
  have h2 := List.mem_of_find?_eq_some h
  exact ⟨by simpa using h2, by simpa using h1⟩
theorem pos2_none {y : Nat → Int} {K : Nat} {v : Int} (h : pos2 y K v = none) : ∀ k, k < K → y k ≠ v := by
  intro k hk
  have := List.find?_eq_none.1 h k (by simpa using hk)
  simpa using this
theorem pos2_of {y : Nat → Int} {K : Nat} {v : Int} {k : Nat} (hk : k < K) (he : y k = v) (hf : ∀ m, m < k → y m ≠ v) : pos2 y K v = some k := by
  cases h : pos2 y K v with
  | none => exact absurd he (pos2_none h k hk)
  | some j =>
    obtain ⟨h1, h2⟩ := pos2_some h
    have h3 : ∀ m, m < j → y m ≠ v := by
      intro m hm
      unfold pos2 at h
      have := List.find?_range_eq_some.1 h
      have := this.2.2 m hm
      simpa using this
    rcases Nat.lt_trichotomy k j with e | e | e
    · exact absurd he (h3 k e)
    · rw [e]
    · exact absurd h2 (hf j e)
theorem pos2_not {y : Nat → Int} {K : Nat} {v : Int} (hf : ∀ m, m < K → y m ≠ v) : pos2 y K v = none := by
  cases h : pos2 y K v with
  | none => rfl
  | some j => exact absurd (pos2_some h).2 (hf j (pos2_some h).1)
theorem pos2_first {y : Nat → Int} {K : Nat} {v : Int} {k : Nat} (h : pos2 y K v = some k) : ∀ m, m < k → y m ≠ v := by
  intro m hm e
  unfold pos2 at h
  have h2 := (List.find?_range_eq_some.1 h).2.2 m hm
  simp [e] at h2
/-- One more that was there adds nothing. -/
theorem pos2_more {y : Nat → Int} {K : Nat} {v : Int} {i : Nat} (hi : i < K) (he : y i = y K) : pos2 y (K + 1) v = pos2 y K v := by
  cases h : pos2 y K v with
  | some k =>
    obtain ⟨h1, h2⟩ := pos2_some h
    exact pos2_of (by omega) h2 (pos2_first h)
  | none =>
    refine pos2_not fun m hm => ?_
    by_cases e : m = K
    · subst e; rw [← he]; exact pos2_none h i hi
    · exact pos2_none h m (by omega)
/-- The first of the first n places of x whose number is among the first K of y, and where it is there. -/
def mgR (x y : Nat → Int) (K : Nat) : Nat → Option (Nat × Nat)
  | 0 => none
  | n + 1 => match mgR x y K n with
    | some r => some r
    | none => match pos2 y K (x n) with
      | some k => some (n, k)
      | none => none
theorem mgR_on {x y : Nat → Int} {K n : Nat} (h : mgR x y K n = none) (hp : pos2 y K (x n) = none) : mgR x y K (n + 1) = none := by rw [mgR, h]; simp only []; rw [hp]
theorem mgR_hit {x y : Nat → Int} {K n k : Nat} (h : mgR x y K n = none) (hp : pos2 y K (x n) = some k) : mgR x y K (n + 1) = some (n, k) := by rw [mgR, h]; simp only []; rw [hp]
theorem mgR_lift {x y : Nat → Int} {K : Nat} {r : Nat × Nat} : ∀ {n m : Nat}, n ≤ m → mgR x y K n = some r → mgR x y K m = some r := by
  intro n m hnm h
  induction m with
  | zero => obtain rfl : n = 0 := by omega
            exact h
  | succ m ih =>
    by_cases e : n = m + 1
    · subst e; exact h
    · rw [mgR, ih (by omega)]
theorem mgR_pos {x y : Nat → Int} {K : Nat} : ∀ {n : Nat}, mgR x y K n = none → ∀ i, i < n → pos2 y K (x i) = none := by
  intro n
  induction n with
  | zero => intro _ i hi; omega
  | succ n ih =>
    intro h i hi
    cases hn : mgR x y K n with
    | some r => rw [mgR, hn] at h; cases h
    | none =>
      cases hp : pos2 y K (x n) with
      | some k => rw [mgR_hit hn hp] at h; cases h
      | none =>
        by_cases e : i = n
        · subst e; exact hp
        · exact ih hn i (by omega)
theorem mgR_lt {x y : Nat → Int} {K : Nat} {r : Nat × Nat} : ∀ {n : Nat}, mgR x y K n = some r → r.1 < n ∧ r.2 < K := by
  intro n
  induction n with
  | zero => intro h; cases h
  | succ n ih =>
    intro h
    cases hn : mgR x y K n with
    | some s =>
      rw [mgR, hn] at h
      cases h
      have := ih hn
      omega
    | none =>
      cases hp : pos2 y K (x n) with
      | some k => rw [mgR_hit hn hp] at h; cases h; have := (pos2_some hp).1; dsimp only; omega
      | none => rw [mgR_on hn hp] at h; cases h
theorem mgR_more {x y : Nat → Int} {K n i : Nat} (hi : i < n) (he : x i = x n) : mgR x y K (n + 1) = mgR x y K n := by
  cases h : mgR x y K n with
  | some r => exact mgR_lift (Nat.le_succ n) h
  | none => exact mgR_on h (by rw [← he]; exact mgR_pos h i hi)
/-- What MergeSteps comes to. -/
def mgA (t p a b : Int) : Option (Nat × Nat) := match cyA t p a, cyA t p b with
  | some (K, _), some (L, _) => mgR (fun j => itr (nx t p) j a) (fun j => itr (nx t p) j b) L K
  | _, _ => none
theorem mgA_some {t p a b : Int} {K i L l : Nat} (h : cyA t p a = some (K, i)) (h' : cyA t p b = some (L, l)) : mgA t p a b = mgR (fun j => itr (nx t p) j a) (fun j => itr (nx t p) j b) L K := by rw [mgA, h, h']
theorem mgA_left {t p a b : Int} (h : cyA t p a = none) : mgA t p a b = none := by rw [mgA, h]
theorem mgA_right {t p a b : Int} (h : cyA t p b = none) : mgA t p a b = none := by
  unfold mgA
  rw [h]
  cases cyA t p a <;> rfl
/-- With the numbers that come again. -/
theorem mgA_full {t p a b : Int} {K i L l : Nat} (h : cyA t p a = some (K, i)) (h' : cyA t p b = some (L, l)) : mgR (fun j => itr (nx t p) j a) (fun j => itr (nx t p) j b) L (K + 1) = mgA t p a b := by
  have hF := (cyA_some h).2.2
  rw [mgA_some h h']
  exact mgR_more hF.lt hF.eq
def msA (t p a b : Int) : Int × Int × Bool := match mgA t p a b with
  | some (i, k) => ((i : Int), (k : Int), true)
  | none => (0, 0, false)
theorem msA_some {t p a b : Int} {i k : Nat} (h : mgA t p a b = some (i, k)) : msA t p a b = ((i : Int), (k : Int), true) := by rw [msA, h]
theorem msA_none {t p a b : Int} (h : mgA t p a b = none) : msA t p a b = (0, 0, false) := by rw [msA, h]
def pmA (t p a b : Int) : Int × Bool := match mgA t p a b with
  | some (i, _) => (itr (nx t p) i a, true)
  | none => (0, false)
theorem pmA_some {t p a b : Int} {i k : Nat} (h : mgA t p a b = some (i, k)) : pmA t p a b = (itr (nx t p) i a, true) := by rw [pmA, h]
theorem pmA_none {t p a b : Int} (h : mgA t p a b = none) : pmA t p a b = (0, false) := by rw [pmA, h]
def Ret3 (x : Int × Int × Bool) (w : World) (e : Ending) (w' : World) : Prop := e = .returned (.tuple #[.int .i64 x.1, .int .i64 x.2.1, .bool x.2.2]) ∧ Below w.heap.size w w'
theorem ret_3 {x : Int × Int × Bool} {a b : Int} {c : Bool} (h : x = (a, b, c)) : Ending.returned (.tuple #[.int .i64 a, .int .i64 b, .bool c]) = .returned (.tuple #[.int .i64 x.1, .int .i64 x.2.1, .bool x.2.2]) := by rw [h]
def Ret2 (x : Int × Bool) (w : World) (e : Ending) (w' : World) : Prop := e = .returned (.tuple #[.int .i64 x.1, .bool x.2]) ∧ Below w.heap.size w w'

/-- 'slices.Index' at any list. -/
def idxP (o : Option Nat) : Int := match o with
  | some k => (k : Int)
  | none => -1
set_option maxRecDepth 100000 in
set_option maxHeartbeats 2000000 in
theorem index_full (y : Nat → Int) (K : Nat) (a : Option Addr) (cap : Nat) (v : Int) (w : World) (hK : K ≤ 1001) (hc : ∀ j, j < K → ∃ g, a = some ⟨g, 0, none⟩ ∧ w.cell? ⟨g, j, none⟩ = some (.int .i64 (y j))) :
    Calls Try.prog 18 #[.slice a K cap, .int .i64 v] w fun e w' => e = .returned (.int .i64 (idxP (pos2 y K v))) ∧ w = w' := by
  have HC := Lib.hid hc
  have HYES := Lib.hid (fun j (hj : j < K) he hf => congrArg idxP (pos2_of (y := y) (K := K) (v := v) (k := j) hj he hf))
  have HNO := Lib.hid (fun hf => congrArg idxP (pos2_not (y := y) (K := K) (v := v) hf))
  have hK2 : (K : Int) ≤ 1001 := by omega
  obtain ⟨r, hr⟩ : ∃ r, idxP (pos2 y K v) = r := ⟨_, rfl⟩
  rw [hr] at HYES HNO ⊢
  clear hc hr
  go_enter Try.func18, Try.ntmps18
  go_wp2_with fail
  go_loop [8] (fun i => ∃ j : Nat, j ≤ K ∧ i = .int .i64 j ∧ ∀ m, m < j → y m ≠ v) (fun i => K - (RowKit.intOf i).toNat)
  case atStart => exact ⟨0, Nat.zero_le _, rfl, fun m hm => by omega⟩
  case round =>
    obtain ⟨j, hj, rfl, hno⟩ := hrel
    have HN := Lib.hid hno
    clear hno
    by_cases hlt : j < K
    · obtain ⟨g, rfl, q⟩ := HC.out j hlt
      have hlt2 : (j : Int) < (K : Int) := by omega
      have HY := Lib.hid (HYES.out j hlt)
      obtain ⟨x, hx⟩ : ∃ x, y j = x := ⟨_, rfl⟩
      have HX := Lib.hid hx
      rw [hx] at q
      clear hx
      by_cases he : v = x
      · have HR : Hid (r = (j : Int)) := Lib.hid ((HY.out (by rw [HX.out, he]) HN.out).trans rfl)
        have he1 : (v == x) = true := by simpa using he
        clear HY HYES HNO he
        go_wp2_with fail
        go_ret
        exact ⟨by rw [HR.out]; rfl, rfl⟩
      · have he1 : (v == x) = false := by simpa using he
        have HNE := Lib.hid he
        clear HY he
        go_wp2_with fail
        exact ⟨⟨j + 1, hlt, by go_num, fun m hm => by
          by_cases e : m = j
          · subst e; rw [HX.out]; exact fun h => HNE.out h.symm
          · exact HN.out m (by omega)⟩, by simp [RowKit.intOf]; omega⟩
    · obtain rfl : j = K := by omega
      have hlt2 : ¬ ((j : Int) < (j : Int)) := by omega
      have HR : Hid (r = -1) := Lib.hid ((HNO.out HN.out).trans rfl)
      clear HNO HYES
      go_wp2_with fail
      go_ret
      exact ⟨by rw [HR.out]; rfl, rfl⟩
theorem idxP_some {y : Nat → Int} {K : Nat} {v : Int} {k : Nat} (h : pos2 y K v = some k) : idxP (pos2 y K v) = (k : Int) := by rw [h]; rfl
theorem idxP_none {y : Nat → Int} {K : Nat} {v : Int} (h : pos2 y K v = none) : idxP (pos2 y K v) = -1 := by rw [h]; rfl

theorem reTwo_any (t p a b : Int) (w : World) :
    Calls Try.prog 15 #[.agg #[.int .i64 t, .int .i64 p], .int .i64 a, .int .i64 b] w fun e w' => e = .returned (.bool (goodB t p && numB a && numB b)) ∧ Below w.heap.size w w' := by
  have HM := Lib.hid (fun w => mpGood_any t p w)
  have HN := Lib.hid (fun w => mpIs_any a w)
  have HN2 := Lib.hid (fun w => mpIs_any b w)
  cases hg : goodB t p <;> cases ha : numB a <;> cases hb : numB b
  all_goals
    rw [hg] at HM
    rw [ha] at HN
    rw [hb] at HN2
    clear hg ha hb
    go_enter Try.func15, Try.ntmps15
    go_wp2_with fail
    refine (HM.out _).mono ?_
    rintro e w1 ⟨rfl, hb1⟩
    obtain ⟨c0, c1, hz, hbb⟩ := map_block hb1
    clear hb1
    go_wp2_with (first | (go_at_call 31; refine (HN.out _).mono ?_; rintro e w' ⟨rfl, rfl⟩) | (go_at_call 31; refine (HN2.out _).mono ?_; rintro e w' ⟨rfl, rfl⟩))
    go_ret
    exact ⟨rfl, hbb⟩
end Go.Proofs.Ytjcpdlamgjpmmaf
