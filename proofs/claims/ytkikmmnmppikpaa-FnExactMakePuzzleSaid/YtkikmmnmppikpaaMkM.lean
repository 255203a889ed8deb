/-
  'MakePuzzle': ITS MATHEMATICS.
-/
import Derived.Test.YtkikmmnmppikpaaPzM
namespace Go.Proofs.Ytkikmmnmppikpaa
open Go.RowKit
set_option linter.unusedVariables false

/-- The number behind a number. -/
def zN (z : Int) : Int := (127 * z + 2843) % 10007
theorem zN_in (z : Int) : 0 ≤ zN z ∧ zN z ≤ 10006 := by unfold zN; omega
/-- The kind that comes of a number, and A. -/
def kZ (z : Int) : Int := zN z % 5
def aZ (z : Int) : Int := if kZ z = 0 then zN (zN z) % 11 + 2 else zN (zN z) % 21
theorem kZ_in (z : Int) : 0 ≤ kZ z ∧ kZ z ≤ 4 := by unfold kZ; omega
theorem aZ_in (z : Int) : 0 ≤ aZ z ∧ aZ z ≤ 20 ∧ (kZ z = 0 → 2 ≤ aZ z) := by
  have := zN_in (zN z)
  unfold aZ
  split
  · refine ⟨by omega, by omega, fun _ => by omega⟩
  · exact ⟨by omega, by omega, fun h => absurd h ‹_›⟩
theorem aZ_zero {z : Int} (h : kZ z = 0) : aZ z = zN (zN z) % 11 + 2 := by unfold aZ; rw [if_pos h]
theorem aZ_other {z : Int} (h : kZ z ≠ 0) : aZ z = zN (zN z) % 21 := by unfold aZ; rw [if_neg h]
/-- The clue that comes of a number. -/
def mkC (t p n z : Int) : Pt := (kZ z, aZ z, (vlP t p (kZ z) (aZ z) n).1)
/-- So many clues. -/
def mkL (t p n : Int) : Nat → Int → List Pt
  | 0, _ => []
  | k + 1, z => mkC t p n z :: mkL t p n k (zN (zN z))
theorem mkL_length (t p n : Int) (k : Nat) (z : Int) : (mkL t p n k z).length = k := by
  induction k generalizing z with
  | zero => rfl
  | succ k ih => simp [mkL, ih]
/-- Are the arguments such that a puzzle is made? -/
def mkB (t p n c s : Int) : Bool := goodB t p && inB n 1 60 && inB c 0 6 && inB s 0 9999 && allB (nx t p) n 21
def mkX (t p n c s : Int) : List Pt := if mkB t p n c s = true then mkL t p n c.toNat s else []
theorem mkB_iff {t p n c s : Int} : mkB t p n c s = true ↔ goodB t p = true ∧ inB n 1 60 = true ∧ inB c 0 6 = true ∧ inB s 0 9999 = true ∧ allB (nx t p) n 21 = true := by simp [mkB, and_assoc]
theorem mkX_len (t p n c s : Int) : (mkX t p n c s).length ≤ 1048576 := by
  unfold mkX
  split
  · rename_i h
    have h2 := (mkB_iff.1 h).2.2.1
    rw [mkL_length]
    simp [inB] at h2
    omega
  · simp
/-- What the walk has made so far, and what is to be made, together are all. -/
theorem mkL_step {out : List Pt} {t p n : Int} {k : Nat} {z : Int} {L : List Pt} (h : out ++ mkL t p n (k + 1) z = L) : (out ++ [mkC t p n z]) ++ mkL t p n k (zN (zN z)) = L := by
  rw [← h]
  simp [mkL]
end Go.Proofs.Ytkikmmnmppikpaa
