/-
  THE SIGNS OF A PATTERN: plain mathematics. No program.
-/
import Derived.Test.YtencblbkbalmcaaDoorPopM
import Derived.Test.YtencblbkbalmcaaDoorWord
namespace Go.Proofs.YtencblbkbalmcaaDoor

/-- The first m signs of a pattern of L signs, the highest bit first. -/
def patP (x L m : Nat) : List UInt8 := (List.range m).map fun (i : Nat) => par ((x / 2 ^ (L - 1 - i) : Nat) : Int)
theorem patP_succ (x L m : Nat) : patP x L (m + 1) = patP x L m ++ [par ((x / 2 ^ (L - 1 - m) : Nat) : Int)] := by simp [patP, List.range_succ]
theorem patP_length (x L m : Nat) : (patP x L m).length = m := by simp [patP]
theorem patP_signs (x L m : Nat) : Signs (patP x L m) := by
  intro c hc
  simp only [patP, List.mem_map] at hc
  obtain ⟨i, _, rfl⟩ := hc
  unfold par
  split <;> simp
/-- A pattern's signs: those of its half, and its last one. -/
theorem patP_half (x L : Nat) : patP x (L + 1) (L + 1) = patP (x / 2) L L ++ [par (x : Int)] := by
  rw [patP_succ]
  congr 1
  · unfold patP
    apply List.map_congr_left
    intro i hi
    have hi' : i < L := by simpa using hi
    congr 2
    rw [show L + 1 - 1 - i = (L - 1 - i) + 1 by omega, Nat.pow_succ, Nat.mul_comm, Nat.div_div_eq_div_mul]
  · simp
theorem count_pat : ∀ (L f x : Nat), L ≤ f → x < 2 ^ L → (patP x L L).count 111 = Lib.popAux f x
  | 0, f, x, _, hx => by
    have : x = 0 := by simpa using hx
    subst this
    have : ∀ f, Lib.popAux f 0 = 0 := by
      intro f
      induction f with
      | zero => rfl
      | succ f ih => rw [Lib.popAux]; simpa using ih
    rw [this]; rfl
  | L + 1, f, x, hf, hx => by
    obtain ⟨g, rfl⟩ : ∃ g, f = g + 1 := ⟨f - 1, by omega⟩
    rw [patP_half, List.count_append, count_pat L g (x / 2) (by omega) (by rw [Nat.pow_succ] at hx; omega), Lib.popAux, Nat.add_comm]
    congr 1
    unfold par
    by_cases h : (x : Int) % 2 = 0
    · rw [if_pos h]; have : x % 2 = 0 := by omega
      rw [this]; rfl
    · rw [if_neg h]; have : x % 2 = 1 := by omega
      rw [this]; rfl
theorem count_pop {L x : Nat} (hL : L ≤ 15) (hx : x < 2 ^ L) : (patP x L L).count 111 = pop x := count_pat L 16 x (by omega) hx
end Go.Proofs.YtencblbkbalmcaaDoor
