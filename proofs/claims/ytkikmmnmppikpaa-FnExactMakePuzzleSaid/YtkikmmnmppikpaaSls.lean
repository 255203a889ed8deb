/-
  PARTS OF A SLICE OF CLUES: what the slice expressions come to, whatever the address.
-/
import Derived.Test.YtkikmmnmppikpaaPzS
namespace Go.Proofs.Ytkikmmnmppikpaa
open Go.RowKit
set_option linter.unusedVariables false

theorem infoCl : (Try.prog.info? 96).map (fun i => (i.zero, i.size, i.bytes)) = some (some (.agg #[.int .i64 0, .int .i64 0, .int .i64 0]), 3, 24) := by kernel_rfl
/-- xs[:k] -/
theorem sl_to (a : Option Addr) (K c k : Nat) (h : k ≤ c) (w : World) :
    (Instr.slice 61 (.slice a K c) none (some (.int .i64 (k : Int))) none).run Try.prog w = .ok (.slice a k c) w := by
  have h1 : (k : Int) ≤ (c : Int) := by omega
  have h0 : (0 : Int) ≤ (k : Int) := by omega
  obtain ⟨i0, hi, hi0, hi1, hi2⟩ := info_parts infoCl
  simp [Instr.slice, Instr.sliceBounds, go_sem, h1, h0]
/-- xs[:k:k] -/
theorem sl_to3 (a : Option Addr) (K c k : Nat) (h : k ≤ c) (w : World) :
    (Instr.slice 61 (.slice a K c) none (some (.int .i64 (k : Int))) (some (.int .i64 (k : Int)))).run Try.prog w = .ok (.slice a k k) w := by
  have h1 : (k : Int) ≤ (c : Int) := by omega
  have h0 : (0 : Int) ≤ (k : Int) := by omega
  obtain ⟨i0, hi, hi0, hi1, hi2⟩ := info_parts infoCl
  simp [Instr.slice, Instr.sliceBounds, go_sem, h1, h0]
theorem clIn_one_of {w : World} {b off k : Nat} {q : Pt} (hb : b < w.heap.size) (hc : PtCell w b (off + k * 3) q) : ClIn w (some ⟨b, off + k * 3, none⟩) [q] := by
  intro j hj
  obtain rfl : j = 0 := by simpa using hj
  exact ⟨b, off + k * 3, rfl, hb, by simpa using hc⟩
/-- xs[k : k + 1] -/
theorem sl_one {w : World} {a : Option Addr} {ps : List Pt} {c k : Nat} (hx : ClIn w a ps) (hk : k < ps.length) (h : ps.length ≤ c) :
    ∃ a', (∀ W, (Instr.slice 61 (.slice a ps.length c) (some (.int .i64 (k : Int))) (some (.int .i64 ((k : Int) + 1))) none).run Try.prog W = .ok (.slice a' 1 (c - k)) W) ∧ ClIn w a' [ps.getD k pt0] := by
  obtain ⟨b, off, rfl, hb, hc⟩ := hx k hk
  refine ⟨some ⟨b, off + k * 3, none⟩, fun W => ?_, clIn_one_of hb hc⟩
  have h1 : (k : Int) + 1 ≤ (c : Int) := by omega
  have h2 : (k : Int) ≤ (k : Int) + 1 := by omega
  have h0 : (0 : Int) ≤ (k : Int) := by omega
  have h3 : (0 : Int) ≤ (k : Int) + 1 := by omega
  have h4 : ¬ (c = k) := by omega
  have h5 : ((k : Int) + 1).toNat = k + 1 := by omega
  obtain ⟨i0, hi, hi0, hi1, hi2⟩ := info_parts infoCl
  simp [Instr.slice, Instr.sliceBounds, go_sem, h1, h0, h3, h4, h5, Addr.add]
/-- xs[k : k + 1 : k + 1] -/
theorem sl_one3 {w : World} {a : Option Addr} {ps : List Pt} {c k : Nat} (hx : ClIn w a ps) (hk : k < ps.length) (h : ps.length ≤ c) :
    ∃ a', (∀ W, (Instr.slice 61 (.slice a ps.length c) (some (.int .i64 (k : Int))) (some (.int .i64 ((k : Int) + 1))) (some (.int .i64 ((k : Int) + 1)))).run Try.prog W = .ok (.slice a' 1 1) W) ∧ ClIn w a' [ps.getD k pt0] := by
  obtain ⟨b, off, rfl, hb, hc⟩ := hx k hk
  refine ⟨some ⟨b, off + k * 3, none⟩, fun W => ?_, clIn_one_of hb hc⟩
  have h1 : (k : Int) + 1 ≤ (c : Int) := by omega
  have h2 : (k : Int) ≤ (k : Int) + 1 := by omega
  have h0 : (0 : Int) ≤ (k : Int) := by omega
  have h3 : (0 : Int) ≤ (k : Int) + 1 := by omega
  have h5 : ((k : Int) + 1).toNat = k + 1 := by omega
  obtain ⟨i0, hi, hi0, hi1, hi2⟩ := info_parts infoCl
  simp [Instr.slice, Instr.sliceBounds, go_sem, h1, h0, h3, h5, Addr.add]
theorem ClIn.drop {w : World} {b off k : Nat} {ps : List Pt} (h : ClIn w (some ⟨b, off, none⟩) ps) : ClIn w (some ⟨b, off + k * 3, none⟩) (ps.drop k) := by
  intro j hj
  rw [List.length_drop] at hj
  obtain ⟨b', off', e, hlt, hc⟩ := h (k + j) (by omega)
  simp only [Option.some.injEq, Addr.mk.injEq] at e
  obtain ⟨rfl, rfl, _⟩ := e
  refine ⟨b, off + k * 3, rfl, hlt, ?_⟩
  rw [List.getD_eq_getElem?_getD, List.getElem?_drop, ← List.getD_eq_getElem?_getD, show off + k * 3 + j * 3 = off + (k + j) * 3 by omega]
  exact hc
end Go.Proofs.Ytkikmmnmppikpaa
