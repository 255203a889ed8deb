/-
  NUMBERS OF EXPONENTS: the mathematics; rows of rows of integers.
-/
import Derived.Test.YtkikmmnmppikpaaPrm
import Derived.Test.YtkikmmnmppikpaaMach
namespace Go.Proofs.Ytkikmmnmppikpaa
open Go.RowKit
set_option linter.unusedVariables false

/-- Is a pair well, behind a prime? -/
def okR (x : List Int) (last : Int) : Bool := decide (x.length = 2) && (prU 100000 (x.getD 0 0) && (inB (x.getD 1 0) 1 40 && decide (last < x.getD 0 0)))
/-- Are k pairs from number i on? -/
def okF (xss : List (List Int)) : Nat → Nat → Int → Bool
  | 0, _, _ => true
  | k + 1, i, last => okR (xss.getD i []) last && okF xss k (i + 1) ((xss.getD i []).getD 0 0)
/-- Multiplied k times; what is too great is left so. -/
def mulK (p : Int) : Nat → Int → Int
  | 0, n => n
  | k + 1, n => mulK p k (if manB n = true then n * p else n)
def stF (xss : List (List Int)) : Nat → Nat → Int → Int
  | 0, _, n => n
  | k + 1, i, n => stF xss k (i + 1) (mulK ((xss.getD i []).getD 0 0) ((xss.getD i []).getD 1 0).toNat n)
def neB (xss : List (List Int)) : Bool := decide (xss.length ≤ 12) && (okF xss xss.length 0 0 && manB (stF xss xss.length 0 1))
def neV (xss : List (List Int)) : Int := if neB xss = true then stF xss xss.length 0 1 else 0
theorem okF_succ (xss : List (List Int)) (k i : Nat) (last : Int) : okF xss (k + 1) i last = (okR (xss.getD i []) last && okF xss k (i + 1) ((xss.getD i []).getD 0 0)) := rfl
theorem stF_succ (xss : List (List Int)) (k i : Nat) (n : Int) : stF xss (k + 1) i n = stF xss k (i + 1) (mulK ((xss.getD i []).getD 0 0) ((xss.getD i []).getD 1 0).toNat n) := rfl
theorem mulK_good {p n : Int} {k : Nat} (h : manB n = true) : mulK p (k + 1) n = mulK p k (n * p) := by rw [mulK, if_pos h]
theorem mulK_bad {p n : Int} (h : manB n = false) : ∀ k, mulK p k n = n := by
  intro k
  induction k with
  | zero => rfl
  | succ k ih => rw [mulK, if_neg (by rw [h]; simp)]; exact ih
theorem stF_bad {xss : List (List Int)} {n : Int} (h : manB n = false) : ∀ k i, stF xss k i n = n := by
  intro k
  induction k with
  | zero => intro i; rfl
  | succ k ih => intro i; rw [stF_succ, mulK_bad h]; exact ih _
theorem okR_iff {x : List Int} {last : Int} (h : okR x last = true) : x.length = 2 ∧ prU 100000 (x.getD 0 0) = true ∧ (1 ≤ x.getD 1 0 ∧ x.getD 1 0 ≤ 40) ∧ last < x.getD 0 0 := by
  unfold okR inB at h
  rw [Bool.and_eq_true, Bool.and_eq_true, Bool.and_eq_true, decide_eq_true_eq, decide_eq_true_eq, decide_eq_true_eq] at h
  exact ⟨h.1, h.2.1, h.2.2.1, h.2.2.2⟩
theorem okR_len {x : List Int} {last : Int} (h : x.length ≠ 2) : okR x last = false := by rw [okR, decide_eq_false h]; rfl
theorem okR_two {x : List Int} {last : Int} (h : x.length = 2) : okR x last = (prU 100000 (x.getD 0 0) && (inB (x.getD 1 0) 1 40 && decide (last < x.getD 0 0))) := by rw [okR, decide_eq_true h]; rfl

/-- A row of rows of integers that can be read. -/
def SSIn (w : World) (v : Value) (xss : List (List Int)) : Prop := ∃ a cap, v = .slice a xss.length cap ∧ ∀ i, i < xss.length → ∃ g u, a = some ⟨g, 0, none⟩ ∧ g < w.heap.size ∧ w.cell? ⟨g, i, none⟩ = some u ∧ IntsIn w u (xss.getD i [])
theorem SSIn.kept {w w' : World} {v : Value} {xss : List (List Int)} (h : SSIn w v xss) (hb : Below w.heap.size w w') : SSIn w' v xss := by
  obtain ⟨a, cap, rfl, hx⟩ := h
  refine ⟨a, cap, rfl, fun i hi => ?_⟩
  obtain ⟨g, u, rfl, hg, hc, hr⟩ := hx i hi
  exact ⟨g, u, rfl, Nat.lt_of_lt_of_le hg hb.size, (hb.cell (p := ⟨g, i, none⟩) hg).trans hc, hr.kept hb⟩
/-- A row of two, by its cells. -/
theorem IntsIn.two {w : World} {u : Value} {x : List Int} (h : IntsIn w u x) (h2 : x.length = 2) : ∃ g cap, u = .slice (some ⟨g, 0, none⟩) 2 cap ∧ g < w.heap.size ∧ w.cell? ⟨g, 0, none⟩ = some (.int .i64 (x.getD 0 0)) ∧ w.cell? ⟨g, 1, none⟩ = some (.int .i64 (x.getD 1 0)) := by
  obtain ⟨a, cap, rfl, hx⟩ := h.rd
  obtain ⟨g, rfl, hg, c0⟩ := hx 0 (by omega)
  obtain ⟨g', e, _, c1⟩ := hx 1 (by omega)
  have : g = g' := by injection e with e; injection e
  subst this
  exact ⟨g, cap, by rw [h2], hg, c0, c1⟩
theorem IntsIn.len {w : World} {u : Value} {x : List Int} (h : IntsIn w u x) : ∃ a cap, u = .slice a x.length cap := h.form
end Go.Proofs.Ytkikmmnmppikpaa
