/-
  FROM WHAT THE STATEMENT SAYS OF BYTES THAT ARE GIVEN TO 'BytesAny'; what is kept of maps in blocks of their own; 'big' of the laws.
-/
import Derived.Test.YtebbafapcknllaaCur
import Derived.ChangeSlices
import Derived.ChangeOld
import Derived.Carry
import Derived.ProofKit
namespace Go.Proofs.Ytebbafapcknllaa
open Go.ChangeShapes Go.WideShapes Go.RowKit
set_option linter.unusedVariables false

/-- Bytes that a call is given, however many. -/
def BytesAny (W : World) (v : Value) : Prop := ∃ (a : Option Addr) (n cap : Nat), v = .slice a n cap ∧ ∀ j, j < n → ∃ b off x, a = some ⟨b, off, none⟩ ∧ b < W.heap.size ∧ W.cell? ⟨b, off + j, none⟩ = some (.int .u8 x) ∧ 0 ≤ x ∧ x ≤ 255
theorem cell_heapB {w : World} {a : Addr} {v : Value} (h : w.cell? a = some v) : a.block < w.heap.size := by
  unfold World.cell? at h
  split at h
  · rename_i hs
    exact (Array.getElem?_eq_some_iff.1 hs).1
  · cases h
theorem cellsByte : Try.prog.cellsOf 5 = 1 := by kernel_rfl
theorem byte_bounds {x : Int} (h : (Lit.int .u8 x).wf = true) : 0 ≤ x ∧ x ≤ 255 := by
  simp [Lit.wf, IntKind.min, IntKind.max, IntKind.signed, IntKind.bits] at h
  omega
theorem argB_of_trod {H : Type} {enc : TypeId × Value → H} {W : World} {v : Value} {d : DataW H} {p : List MemPlace} (hv : ∃ a len cap, v = .slice a len cap)
    (h : DataW.Trod enc Try.prog W 0 (fun _ => true) true 22 v d p) : BytesAny W v := by
  obtain ⟨a0, len, cap, rfl⟩ := hv
  obtain ⟨fuel, hf⟩ := h
  rcases open_ints Try.underlying22 Try.underlying5 cellsByte hf with ⟨hcs, hx⟩ | ⟨a, len', cap', zs, hcs, _, hl, hm, hz, hx, hcell, hwz⟩
  · simp [Value.cells] at hcs
    obtain ⟨rfl, rfl, rfl⟩ := hcs
    exact ⟨none, 0, 0, rfl, fun j hj => by omega⟩
  · simp [Value.cells] at hcs
    obtain ⟨rfl, rfl, rfl⟩ := hcs
    simp only [if_true] at hz
    refine ⟨some a, len, cap, rfl, fun j hj => ?_⟩
    have hc := hcell j (by omega)
    obtain ⟨b, off, spot⟩ := a
    have hspot : spot = none := by simpa [Addr.add] using World.cell?_spot (hcell 0 (by omega))
    subst hspot
    have hb := cell_heapB hc
    rw [add_plain] at hc hb
    have hw : (Lit.int .u8 (zs.getD j 0)).wf = true := by
      rw [List.getD_eq_getElem?_getD, List.getElem?_eq_getElem (by omega)]
      exact hwz _ (List.getElem_mem _)
    have h01 : 0 ≤ zs.getD j 0 ∧ zs.getD j 0 ≤ 255 := byte_bounds hw
    exact ⟨b, off, zs.getD j 0, rfl, hb, hc, h01.1, h01.2⟩
theorem argBackB {H : Type} {enc : TypeId × Value → H} {W W' : World} {v : Value} {d : DataW H} {p : List MemPlace} (hl : laidOutB Try.prog = true) (h : DataW.Trod enc Try.prog W 0 (fun _ => true) true 22 v d p) (hb : Below W.heap.size W W') :
    DataW.Trod enc Try.prog W' 0 (fun b => decide (b < W.heap.size)) true 22 v d p := by
  refine Below.trod hl (by kernel_rfl) (of_decide_eq_true (by kernel_rfl)) h hb ?_
  obtain ⟨fuel, hf⟩ := h
  exact DataW.trod_lt _ _ _ _ hf
/-- What is kept from call to call: maps in blocks, and what stands below. -/
def KpB (w W : World) (L : List (Nat × Int × Int)) : Prop := (∀ x ∈ L, x.1 < W.heap.size ∧ W.cell? ⟨x.1, 0, none⟩ = some (.int .i64 x.2.1) ∧ W.cell? ⟨x.1, 1, none⟩ = some (.int .i64 x.2.2)) ∧ Below w.heap.size w W
theorem KpB.next {w W W' : World} {L : List (Nat × Int × Int)} (h : KpB w W L) (hb : Below W.heap.size W W') : KpB w W' L :=
  ⟨fun x hx => by
    obtain ⟨h1, h2, h3⟩ := h.1 x hx
    exact ⟨Nat.lt_of_lt_of_le h1 hb.size, (hb.cell (p := ⟨x.1, 0, none⟩) h1).trans h2, (hb.cell (p := ⟨x.1, 1, none⟩) h1).trans h3⟩, h.2.trans (hb.mono h.2.size)⟩
theorem KpB.add {w W : World} {L : List (Nat × Int × Int)} (h : KpB w W L) (t p : Int) (T : TypeId) : KpB w (W.alloc (.cells #[.int .i64 t, .int .i64 p] T)) ((W.heap.size, t, p) :: L) := by
  have hb : Below W.heap.size W (W.alloc (.cells #[.int .i64 t, .int .i64 p] T)) := (Below.refl W.heap.size W).alloc (Nat.le_refl _) _
  refine ⟨fun x hx => ?_, h.2.trans (hb.mono h.2.size)⟩
  rcases List.mem_cons.1 hx with rfl | hx
  · refine ⟨by simp, ?_, ?_⟩ <;> go_simp
  · exact (h.next hb).1 x hx
theorem KpB.get {w W : World} {L : List (Nat × Int × Int)} (h : KpB w W L) {b : Nat} {t p : Int} (hx : (b, t, p) ∈ L) : W.cell? ⟨b, 0, none⟩ = some (.int .i64 t) ∧ W.cell? ⟨b, 1, none⟩ = some (.int .i64 p) := (h.1 _ hx).2
/-- Are the bytes too many? -/
def bigB (n m : Nat) : Bool := decide (1048576 < (n : Int)) || decide (1048576 - (n : Int) < (m : Int))
set_option maxRecDepth 100000 in
set_option maxHeartbeats 1000000 in
theorem big_any (a a' : Option Addr) (n m cap cap' : Nat) (w : World) :
    Calls Try.prog 4 #[.slice a n cap, .slice a' m cap'] w fun e w' => e = .returned (.bool (bigB n m)) ∧ w = w' := by
  unfold bigB
  by_cases h1 : 1048576 < (n : Int)
  · go_enter Try.func4, Try.ntmps4
    go_wp2
    go_ret
    exact ⟨by first | rfl | (rw [decide_eq_true (show 1048576 < (n : Int) by omega), Bool.true_or]; rfl), rfl⟩
  · by_cases h2 : 1048576 - (n : Int) < (m : Int)
    · go_enter Try.func4, Try.ntmps4
      go_wp2
      go_ret
      exact ⟨by first | rfl | (rw [decide_eq_true (show 1048576 - (n : Int) < (m : Int) by omega), Bool.or_true]; rfl), rfl⟩
    · go_enter Try.func4, Try.ntmps4
      go_wp2
      go_ret
      exact ⟨by first | rfl | (rw [decide_eq_false (show ¬ 1048576 < (n : Int) by omega), decide_eq_false (show ¬ 1048576 - (n : Int) < (m : Int) by omega)]; rfl), rfl⟩
theorem BytesAny.small {W : World} {a : Option Addr} {n cap : Nat} (h : BytesAny W (.slice a n cap)) (hn : n ≤ 1048576) : BytesArg W (.slice a n cap) := by
  obtain ⟨a', n', cap', he, hx⟩ := h
  injection he with h1 h2 h3
  subst h1 h2 h3
  exact ⟨a, n, cap, rfl, hn, hx⟩
end Go.Proofs.Ytebbafapcknllaa
