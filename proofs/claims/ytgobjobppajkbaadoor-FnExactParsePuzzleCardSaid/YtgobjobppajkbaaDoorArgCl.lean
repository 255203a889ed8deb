/-
  FROM WHAT THE STATEMENT SAYS OF A PUZZLE TO 'ArgZ'; of a clue.
-/
import Derived.Test.YtgobjobppajkbaaDoorCl
import Derived.Lib.SmallJoins
import Derived.Deep.Strs
import Derived.ChangeSlices
import Derived.ChangeOld
import Derived.Carry
import Derived.ProofKit
namespace Go.Proofs.YtgobjobppajkbaaDoor
open Go.ChangeShapes Go.WideShapes Go.RowKit Go.Joins Go.Deep
set_option linter.unusedVariables false

theorem cell_heapZ {w : World} {a : Addr} {v : Value} (h : w.cell? a = some v) : a.block < w.heap.size := by
  unfold World.cell? at h
  split at h
  · rename_i hs
    exact (Array.getElem?_eq_some_iff.1 hs).1
  · cases h
theorem cellsClue : Tryd.prog.cellsOf 125 = 3 := by kernel_rfl
theorem cellsI3 : Tryd.prog.cellsOf 3 = 1 := by kernel_rfl
set_option maxRecDepth 100000 in
theorem argP_of_cells {H : Type} {enc : TypeId × Value → H} {W : World} {v : Value} {n : Nat} {x : DataW H × List MemPlace} (hf : DataW.trod enc Tryd.prog W 0 (fun _ => true) true n 47 [v] = some x) : ∃ ps, ArgP W v ps := by
  rcases open_slice Tryd.underlying47 hf with ⟨hcs, hx⟩ | ⟨a, len, cap, m, k, D, Pl, hcs, hb, hl, hm, hmm, hx0, hx⟩
  · simp at hcs
    subst hcs
    exact ⟨[], none, 0, rfl, by simp, fun j hj => by simp at hj⟩
  · simp at hcs
    subst hcs
    simp only [if_true] at hmm
    have each : ∀ i, ∃ q : Pt, i < len → W.cell? (a.add (i * 3)) = some (.int .i64 q.1) ∧ W.cell? (a.add (i * 3 + 1)) = some (.int .i64 q.2.1) ∧ W.cell? (a.add (i * 3 + 2)) = some (.int .i64 q.2.2) := by
      intro i
      by_cases hi : i < len
      · obtain ⟨cs', h1, h2⟩ := hx i (by omega)
        rw [cellsClue] at h1
        obtain ⟨_, hlen, hcell⟩ := World.cells?_some h1
        obtain ⟨xs, k', hk, hxy, _, hxl, hf⟩ := DataW.trod_struct Tryd.underlying125 h2
        match xs, hxl, cs', hlen with
        | [y0, y1, y2], _, [v0, v1, v2], _ =>
          have g0 := hf 0 _ rfl
          have g1 := hf 1 _ rfl
          have g2 := hf 2 _ rfl
          simp [cellsI3] at g0 g1 g2
          obtain ⟨t0, r0, e0, _⟩ := DataW.trod_int Tryd.underlying3 g0
          obtain ⟨t1, r1, e1, _⟩ := DataW.trod_int Tryd.underlying3 g1
          obtain ⟨t2, r2, e2, _⟩ := DataW.trod_int Tryd.underlying3 g2
          have c0 := hcell 0 (by omega)
          have c1 := hcell 1 (by omega)
          have c2 := hcell 2 (by omega)
          rw [add_add] at c0 c1 c2
          simp at r0 r1 r2
          subst r0 r1 r2
          exact ⟨(t0, t1, t2), fun _ => ⟨by simpa using c0, by simpa using c1, by simpa using c2⟩⟩
      · exact ⟨pt0, fun h => (hi h).elim⟩
    obtain ⟨q, hq⟩ : ∃ q : Nat → Pt, ∀ i, i < len → W.cell? (a.add (i * 3)) = some (.int .i64 (q i).1) ∧ W.cell? (a.add (i * 3 + 1)) = some (.int .i64 (q i).2.1) ∧ W.cell? (a.add (i * 3 + 2)) = some (.int .i64 (q i).2.2) :=
      ⟨fun i => Classical.choose (each i), fun i => Classical.choose_spec (each i)⟩
    have hL : ((List.range len).map q).length = len := by simp
    refine ⟨(List.range len).map q, some a, cap, by rw [hL], by rw [hL]; omega, fun j hj => ?_⟩
    rw [hL] at hj
    have hg : ((List.range len).map q).getD j pt0 = q j := by simp [List.getD_eq_getElem?_getD, hj]
    rw [hg]
    obtain ⟨h0, h1, h2⟩ := hq j hj
    have h00 := (hq 0 (by omega)).1
    obtain ⟨b, off, spot⟩ := a
    have hspot : spot = none := by simpa [Addr.add] using World.cell?_spot h00
    subst hspot
    rw [add_plain] at h0 h1 h2
    exact ⟨b, off, rfl, cell_heapZ h0, h0, h1, h2⟩
theorem cellsPuz : Tryd.prog.cellsOf 49 = 3 := by kernel_rfl
theorem cellsMapL : Tryd.prog.cellsOf 23 = 2 := by kernel_rfl
theorem cellsClS : Tryd.prog.cellsOf 47 = 1 := by kernel_rfl
set_option maxRecDepth 100000 in
theorem argZ_of_trod {H : Type} {enc : TypeId × Value → H} {W : World} {base : Nat} {v : Value} {d : DataW H} {p : List MemPlace} (hv : Value.okWide Tryd.prog W .any base 49 v)
    (h : DataW.Trod enc Tryd.prog W 0 (fun _ => true) true 49 v d p) : ∃ x y ps, ArgZ W v x y ps := by
  obtain ⟨cs, rfl, hsz⟩ := okWide_struct Tryd.underlying49 hv
  rw [cellsPuz] at hsz
  obtain ⟨l⟩ := cs
  match l, hsz with
  | [c0, c1, c2], _ =>
    obtain ⟨fuel, hf⟩ := h
    obtain ⟨xs, k', hk, hxy, _, hxl, hf2⟩ := DataW.trod_struct Tryd.underlying49 hf
    match xs, hxl with
    | [y0, y1], _ =>
      have g0 := hf2 0 _ rfl
      have g1 := hf2 1 _ rfl
      simp [cellsMapL, cellsClS, Value.cells] at g0 g1
      obtain ⟨zs, k2, hk2, hxy2, _, hzl, hf3⟩ := DataW.trod_struct Tryd.underlying23 g0
      match zs, hzl with
      | [z0, z1], _ =>
        have m0 := hf3 0 _ rfl
        have m1 := hf3 1 _ rfl
        simp [cellsI3] at m0 m1
        obtain ⟨x, r0, e0, _⟩ := DataW.trod_int Tryd.underlying3 m0
        obtain ⟨y, r1, e1, _⟩ := DataW.trod_int Tryd.underlying3 m1
        simp at r0 r1
        subst r0 r1
        obtain ⟨ps, hp⟩ := argP_of_cells g1
        exact ⟨x, y, ps, c2, rfl, hp⟩
set_option maxRecDepth 100000 in
/-- Behind the call the puzzle reads as it read. -/
theorem argBackZ {H : Type} {enc : TypeId × Value → H} {W W' : World} {v : Value} {d : DataW H} {p : List MemPlace} (hl : laidOutB Tryd.prog = true) (h : DataW.Trod enc Tryd.prog W 0 (fun _ => true) true 49 v d p) (hb : Below W.heap.size W W') :
    DataW.Trod enc Tryd.prog W' 0 (fun b => decide (b < W.heap.size)) true 49 v d p := by
  refine Below.trod hl (by kernel_rfl) (of_decide_eq_true (by kernel_rfl)) h hb ?_
  obtain ⟨fuel, hf⟩ := h
  exact DataW.trod_lt _ _ _ _ hf
set_option maxRecDepth 100000 in
theorem argC_of_trod {H : Type} {enc : TypeId × Value → H} {W : World} {base : Nat} {v : Value} {d : DataW H} {p : List MemPlace} (hv : Value.okWide Tryd.prog W .any base 125 v)
    (h : DataW.Trod enc Tryd.prog W 0 (fun _ => true) true 125 v d p) : ∃ k a b : Int, v = .agg #[.int .i64 k, .int .i64 a, .int .i64 b] := by
  obtain ⟨cs, rfl, hsz⟩ := okWide_struct Tryd.underlying125 hv
  rw [cellsClue] at hsz
  obtain ⟨l⟩ := cs
  match l, hsz with
  | [c0, c1, c2], _ =>
    obtain ⟨fuel, hf⟩ := h
    obtain ⟨xs, k', hk, hxy, _, hxl, hf3⟩ := DataW.trod_struct Tryd.underlying125 hf
    match xs, hxl with
    | [z0, z1, z2], _ =>
      have m0 := hf3 0 _ rfl
      have m1 := hf3 1 _ rfl
      have m2 := hf3 2 _ rfl
      simp [cellsI3, Value.cells] at m0 m1 m2
      obtain ⟨x, r0, e0, _⟩ := DataW.trod_int Tryd.underlying3 m0
      obtain ⟨y, r1, e1, _⟩ := DataW.trod_int Tryd.underlying3 m1
      obtain ⟨z, r2, e2, _⟩ := DataW.trod_int Tryd.underlying3 m2
      simp at r0 r1 r2
      subst r0 r1 r2
      exact ⟨x, y, z, rfl⟩
set_option maxRecDepth 100000 in
theorem argBackC {H : Type} {enc : TypeId × Value → H} {W W' : World} {v : Value} {d : DataW H} {p : List MemPlace} (hl : laidOutB Tryd.prog = true) (h : DataW.Trod enc Tryd.prog W 0 (fun _ => true) true 125 v d p) (hb : Below W.heap.size W W') :
    DataW.Trod enc Tryd.prog W' 0 (fun b => decide (b < W.heap.size)) true 125 v d p := by
  refine Below.trod hl (by kernel_rfl) (of_decide_eq_true (by kernel_rfl)) h hb ?_
  obtain ⟨fuel, hf⟩ := h
  exact DataW.trod_lt _ _ _ _ hf
end Go.Proofs.YtgobjobppajkbaaDoor
