/-
  FROM WHAT THE STATEMENT SAYS OF A DESK TO 'ArgD'.
-/
import Derived.Test.YtkikmmnmppikpaaDkL
import Derived.Test.YtkikmmnmppikpaaArgM
import Derived.Lib.SmallJoins
import Derived.Deep.Strs
import Derived.ChangeSlices
import Derived.ChangeOld
import Derived.Carry
import Derived.ProofKit
namespace Go.Proofs.Ytkikmmnmppikpaa
open Go.ChangeShapes Go.WideShapes Go.RowKit Go.Joins Go.Deep
set_option linter.unusedVariables false

theorem cellsDk : Try.prog.cellsOf 36 = 5 := by kernel_rfl
theorem cellsDkM : Try.prog.cellsOf 33 = 2 := by kernel_rfl
theorem cellsDkR : Try.prog.cellsOf 34 = 2 := by kernel_rfl
theorem cellsDkI : Try.prog.cellsOf 24 = 1 := by kernel_rfl
theorem cellsDk3 : Try.prog.cellsOf 3 = 1 := by kernel_rfl
set_option maxRecDepth 100000 in
theorem argD_of_trod {H : Type} {enc : TypeId × Value → H} {W : World} {base : Nat} {v : Value} {d : DataW H} {p : List MemPlace} (hv : Value.okWide Try.prog W .any base 36 v)
    (h : DataW.Trod enc Try.prog W 0 (fun _ => true) true 36 v d p) : ∃ t p n ns ds, ArgD W v t p n ns ds := by
  obtain ⟨cs, rfl, hsz⟩ := okWide_struct Try.underlying36 hv
  rw [cellsDk] at hsz
  obtain ⟨l⟩ := cs
  match l, hsz with
  | [c0, c1, c2, c3, c4], _ =>
    obtain ⟨fuel, hf⟩ := h
    obtain ⟨xs, k', hk, hxy, _, hxl, hf2⟩ := DataW.trod_struct Try.underlying36 hf
    match xs, hxl with
    | [y0, y1, y2], _ =>
      have g0 := hf2 0 _ rfl
      have g1 := hf2 1 _ rfl
      have g2 := hf2 2 _ rfl
      simp [cellsDkM, cellsDkR, cellsDk3, Value.cells] at g0 g1 g2
      obtain ⟨zs, k2, hk2, hxy2, _, hzl, hf3⟩ := DataW.trod_struct Try.underlying33 g0
      obtain ⟨ys, k3, hk3, hxy3, _, hyl, hf4⟩ := DataW.trod_struct Try.underlying34 g2
      match zs, hzl, ys, hyl with
      | [z0, z1], _, [s0, s1], _ =>
        have m0 := hf3 0 _ rfl
        have m1 := hf3 1 _ rfl
        have n0 := hf4 0 _ rfl
        have n1 := hf4 1 _ rfl
        simp [cellsDk3, cellsDkI] at m0 m1 n0 n1
        obtain ⟨x, r0, e0, _⟩ := DataW.trod_int Try.underlying3 m0
        obtain ⟨y, r1, e1, _⟩ := DataW.trod_int Try.underlying3 m1
        obtain ⟨z, r2, e2, _⟩ := DataW.trod_int Try.underlying3 g1
        simp at r0 r1 r2
        subst r0 r1 r2
        obtain ⟨xs1, a1, b1⟩ := argI_of_cells n0
        obtain ⟨xs2, a2, b2⟩ := argI_of_cells n1
        exact ⟨x, y, z, xs1, xs2, c3, c4, rfl, c3, c4, rfl, a1, a2, b1, b2⟩
set_option maxRecDepth 100000 in
/-- Behind the call the desk reads as it read. -/
theorem argBackD {H : Type} {enc : TypeId × Value → H} {W W' : World} {v : Value} {d : DataW H} {p : List MemPlace} (hl : laidOutB Try.prog = true) (h : DataW.Trod enc Try.prog W 0 (fun _ => true) true 36 v d p) (hb : Below W.heap.size W W') :
    DataW.Trod enc Try.prog W' 0 (fun b => decide (b < W.heap.size)) true 36 v d p := by
  refine Below.trod hl (by kernel_rfl) (of_decide_eq_true (by kernel_rfl)) h hb ?_
  obtain ⟨fuel, hf⟩ := h
  exact DataW.trod_lt _ _ _ _ hf
end Go.Proofs.Ytkikmmnmppikpaa
