/-
  'PathOf' of both, and the walk of its law.
-/
import Derived.Test.YtponmblponfdaaaSlices
import Derived.Test.YtponmblponfdaaaWalkPath
import Derived.Test.YtponmblponfdaaaYes
namespace Go.Proofs.Ytponmblponfdaaa
open Go.RowKit
set_option linter.unusedVariables false

/-- What PathOf comes to. -/
def pofB (t p n k : Int) : Bool := (aft t p (nx t p) n k).2 && decide (k ≤ 200)
def pofL (t p n k : Int) : List Int := if pofB t p n k = true then pathL (nx t p) n k.toNat else []
theorem pofL_len (t p n k : Int) : (pofL t p n k).length ≤ 1000000000000 := by
  unfold pofL
  split
  · rename_i h
    simp only [pofB, Bool.and_eq_true, decide_eq_true_eq] at h
    rw [pathL_length]; omega
  · simp
theorem aft_two {t p n k : Int} {f : Int → Int} : (aft t p f n k).2 = (askB t p n k && allB f n (k.toNat + 1)) := by
  unfold aft
  by_cases h : askB t p n k = true ∧ allB f n (k.toNat + 1) = true
  · rw [if_pos h, h.1, h.2]; rfl
  · rw [if_neg h]
    by_cases h1 : askB t p n k = true
    · have : allB f n (k.toNat + 1) = false := by simpa using fun x => h ⟨h1, x⟩
      simp [this]
    · simp [h1]

/-- A list handed back, whole: the list, the flag. -/
theorem ret_list {xs : List Int} {ok : Bool} {w w1 w' : World} {v : Value} (hr : IntsAt w' w.heap.size v xs) (hb : Below w.heap.size w w') (hn : xs = [] → v = .slice none 0 0) : RetPath xs ok w (.returned (.tuple #[v, .bool ok])) w' := ⟨v, rfl, hr, hb, hn⟩
theorem ret_nolist {xs : List Int} {ok : Bool} {w w' : World} (hx : xs = []) (ho : ok = false) (hb : Below w.heap.size w w') : RetPath xs ok w (.returned (.tuple #[.slice none 0 0, .bool false])) w' := by
  subst hx ho
  exact ⟨_, rfl, World.ownsRow_nil _ _ _ _, hb, fun _ => rfl⟩

end Go.Proofs.Ytponmblponfdaaa
