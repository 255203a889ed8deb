/-
  RESIDUES THAT ARE REACHED: a list that grows until it is closed. No program.
-/
import Derived.Test.YtpfclanblcngfaaRsM
import Derived.Test.YtpfclanblcngfaaNvM
namespace Go.Proofs.Ytpfclanblcngfaa
open Go.RowKit
set_option linter.unusedVariables false

/-- One more, if it is not there. -/
def add1 (a : List Int) (y : Int) : List Int := if y ∈ a then a else a ++ [y]
def addU (a ys : List Int) : List Int := ys.foldl add1 a
theorem add1_yes {a : List Int} {y : Int} (h : y ∈ a) : add1 a y = a := if_pos h
theorem add1_no {a : List Int} {y : Int} (h : y ∉ a) : add1 a y = a ++ [y] := if_neg h
theorem mem_add1 {a : List Int} {y z : Int} : z ∈ add1 a y ↔ z ∈ a ∨ z = y := by
  by_cases h : y ∈ a
  · rw [add1_yes h]
    constructor
    · exact .inl
    · rintro (h1 | rfl)
      · exact h1
      · exact h
  · rw [add1_no h, List.mem_append, List.mem_singleton]
theorem add1_nodup {a : List Int} (y : Int) (h : a.Nodup) : (add1 a y).Nodup := by
  by_cases hy : y ∈ a
  · rw [add1_yes hy]; exact h
  · rw [add1_no hy]
    refine List.nodup_append.2 ⟨h, by simp, fun x hx b hb => ?_⟩
    rw [List.mem_singleton] at hb
    subst hb
    exact fun e => hy (e ▸ hx)
theorem add1_pre (a : List Int) (y : Int) : ∃ s, add1 a y = a ++ s := by
  by_cases hy : y ∈ a
  · exact ⟨[], by rw [add1_yes hy, List.append_nil]⟩
  · exact ⟨[y], add1_no hy⟩
theorem addU_take {a ys : List Int} {m : Nat} (h : m < ys.length) : addU a (ys.take (m + 1)) = add1 (addU a (ys.take m)) (ys.getD m 0) := by
  unfold addU; rw [take_snocI h, List.foldl_append]; rfl
theorem mem_addU {z : Int} : ∀ {ys a : List Int}, z ∈ addU a ys ↔ z ∈ a ∨ z ∈ ys
  | [], a => by simp [addU]
  | y :: ys, a => by
    rw [show addU a (y :: ys) = addU (add1 a y) ys from rfl, mem_addU, mem_add1, List.mem_cons, or_assoc]
theorem addU_nodup : ∀ {ys a : List Int}, a.Nodup → (addU a ys).Nodup
  | [], a, h => h
  | y :: ys, a, h => addU_nodup (ys := ys) (add1_nodup y h)
theorem addU_pre : ∀ (ys a : List Int), ∃ s, addU a ys = a ++ s
  | [], a => ⟨[], by simp [addU]⟩
  | y :: ys, a => by
    obtain ⟨s1, h1⟩ := add1_pre a y
    obtain ⟨s2, h2⟩ := addU_pre ys (add1 a y)
    exact ⟨s1 ++ s2, by rw [show addU a (y :: ys) = addU (add1 a y) ys from rfl, h2, h1, List.append_assoc]⟩
theorem getD_pre {a s : List Int} {i : Nat} (h : i < a.length) : (a ++ s).getD i 0 = a.getD i 0 := by
  rw [List.getD_eq_getElem?_getD, List.getElem?_append_left h, List.getD_eq_getElem?_getD]
/-- A list of what is reached, whose first k are done with. -/
structure RrAt (t p M : Int) (from' out : List Int) (k : Nat) : Prop where
  nd : out.Nodup
  base : ∀ x ∈ from', x ∈ out
  rch : ∀ x ∈ out, Rch t p M from' x
  cl : ∀ i, i < k → nb t p M (out.getD i 0) 0 ∈ out ∧ nb t p M (out.getD i 0) 1 ∈ out
  le : k ≤ out.length
theorem RrAt.start {t p M : Int} {l : List Int} (h : l.Nodup) : RrAt t p M l l 0 := ⟨h, fun _ hx => hx, fun _ hx => .base hx, fun i hi => by omega, Nat.zero_le _⟩
theorem RrAt.step {t p M : Int} {l out : List Int} {k : Nat} (h : RrAt t p M l out k) (hk : k < out.length) : RrAt t p M l (addU out (nbL t p M (out.getD k 0))) (k + 1) := by
  obtain ⟨s, hs⟩ := addU_pre (nbL t p M (out.getD k 0)) out
  have hin : out.getD k 0 ∈ out := mem_of_at hk rfl
  refine ⟨addU_nodup h.nd, fun x hx => mem_addU.2 (.inl (h.base x hx)), fun x hx => ?_, fun i hi => ?_, ?_⟩
  · rcases mem_addU.1 hx with h1 | h1
    · exact h.rch x h1
    · exact (h.rch _ hin).nbL h1
  · have hio : i < out.length := by omega
    have e : (addU out (nbL t p M (out.getD k 0))).getD i 0 = out.getD i 0 := by rw [hs]; exact getD_pre hio
    rw [e]
    by_cases hik : i = k
    · subst hik
      exact ⟨mem_addU.2 (.inr (mem_nbL.2 (.inl rfl))), mem_addU.2 (.inr (mem_nbL.2 (.inr rfl)))⟩
    · obtain ⟨h1, h2⟩ := h.cl i (by omega)
      exact ⟨mem_addU.2 (.inl h1), mem_addU.2 (.inl h2)⟩
  · rw [hs, List.length_append]; omega
theorem RrAt.range {t p : Int} {K : Nat} {l out : List Int} {k : Nat} (h : RrAt t p K l out k) (hK : 0 < K) (hl : ∀ x ∈ l, 0 ≤ x ∧ x < (K : Int)) : ∀ x ∈ out, 0 ≤ x ∧ x < (K : Int) := fun x hx => (h.rch x hx).range (by omega) hl
theorem RrAt.len {t p : Int} {K : Nat} {l out : List Int} {k : Nat} (h : RrAt t p K l out k) (hK : 0 < K) (hl : ∀ x ∈ l, 0 ≤ x ∧ x < (K : Int)) : out.length ≤ K :=
  nodup_len h.nd (h.range hK hl)
theorem RrAt.mem {t p : Int} {K : Nat} {l out : List Int} (h : RrAt t p K l out out.length) (x : Int) : x ∈ out ↔ Rch t p K l x :=
  rch_of_closed h.base h.rch (fun x hx => by
    obtain ⟨i, hi, e⟩ := List.getElem_of_mem hx
    have := h.cl i hi
    rw [List.getD_eq_getElem?_getD, List.getElem?_eq_getElem hi] at this
    simp only [Option.getD_some, e] at this
    exact this) x
theorem RrAt.fin {t p : Int} {K : Nat} {l out : List Int} (h : RrAt t p K l out out.length) (hK : 0 < K) (hl : ∀ x ∈ l, 0 ≤ x ∧ x < (K : Int)) : srtI out = rcL t p K l :=
  srt_set h.nd (rcL_sorted t p K l) (fun x => by rw [h.mem, mem_rcL hK hl])
end Go.Proofs.Ytpfclanblcngfaa
