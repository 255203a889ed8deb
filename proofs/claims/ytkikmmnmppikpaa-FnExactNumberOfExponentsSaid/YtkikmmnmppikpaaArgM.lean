/-
  FROM WHAT THE STATEMENT SAYS OF A MACHINE TO 'ArgM'.
-/
import Derived.Test.YtkikmmnmppikpaaMachL
import Derived.Lib.SmallJoins
namespace Go.Proofs.Ytkikmmnmppikpaa
open Go.ChangeShapes Go.WideShapes Go.RowKit Go.Joins
set_option linter.unusedVariables false

theorem argI_of_cells {H : Type} {enc : TypeId × Value → H} {W : World} {v : Value} {n : Nat} {x : DataW H × List MemPlace} (hf : DataW.trod enc Try.prog W 0 (fun _ => true) true n 24 [v] = some x) : ∃ xs, ArgI W v xs ∧ xs.length ≤ maxLen := by
  rcases open_ints Try.underlying24 Try.underlying3 cellsInt hf with ⟨hcs, hx⟩ | ⟨a, len', cap', zs, hcs, _, hl, hm, hz, hx, hcell, hwz⟩
  · simp at hcs
    subst hcs
    exact ⟨[], ⟨none, 0, rfl, fun h => (h rfl).elim⟩, by simp⟩
  · simp at hcs
    subst hcs
    simp only [if_true] at hz
    have hlen : (zs.take len').length = len' := by rw [List.length_take]; omega
    refine ⟨zs.take len', ⟨some a, cap', by rw [hlen], fun hne => ?_⟩, by omega⟩
    have hpos : 0 < len' := by
      rcases Nat.eq_zero_or_pos len' with h0 | h0
      · subst h0; exact (hne (by simp)).elim
      · exact h0
    obtain ⟨b, off, spot⟩ := a
    have hspot : spot = none := by simpa [Addr.add] using World.cell?_spot (hcell 0 (by omega))
    subst hspot
    refine ⟨b, off, rfl, ?_, fun j hj => ?_⟩
    · have := cell_heap (hcell 0 (by omega))
      rwa [add_plain] at this
    · rw [hlen] at hj
      have := hcell j (by omega)
      rw [add_plain] at this
      rw [this, List.getD, List.getD, List.getElem?_take, if_pos hj]
theorem cellsLM : Try.prog.cellsOf 34 = 2 := by kernel_rfl
set_option maxRecDepth 100000 in
theorem argM_of_trod {H : Type} {enc : TypeId × Value → H} {W : World} {base : Nat} {v : Value} {d : DataW H} {p : List MemPlace} (hv : Value.okWide Try.prog W .any base 34 v)
    (h : DataW.Trod enc Try.prog W 0 (fun _ => true) true 34 v d p) : ∃ ns ds, ArgM W v ns ds := by
  obtain ⟨v1, v2, y1, y2, n, rfl, _, _, h1, h2⟩ := open_agg2 Try.underlying34 (by kernel_rfl) cellsLM hv h
  obtain ⟨xs1, a1, b1⟩ := argI_of_cells h1
  obtain ⟨xs2, a2, b2⟩ := argI_of_cells h2
  exact ⟨xs1, xs2, v1, v2, rfl, a1, a2, b1, b2⟩
set_option maxRecDepth 100000 in
/-- Behind the call the machine reads as it read. -/
theorem argBackM {H : Type} {enc : TypeId × Value → H} {W W' : World} {v : Value} {d : DataW H} {p : List MemPlace} (hl : laidOutB Try.prog = true) (h : DataW.Trod enc Try.prog W 0 (fun _ => true) true 34 v d p) (hb : Below W.heap.size W W') :
    DataW.Trod enc Try.prog W' 0 (fun b => decide (b < W.heap.size)) true 34 v d p := by
  refine Below.trod hl (by kernel_rfl) (of_decide_eq_true (by kernel_rfl)) h hb ?_
  obtain ⟨fuel, hf⟩ := h
  exact DataW.trod_lt _ _ _ _ hf
end Go.Proofs.Ytkikmmnmppikpaa
