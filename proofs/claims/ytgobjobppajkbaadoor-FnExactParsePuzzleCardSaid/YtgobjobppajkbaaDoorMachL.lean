/-
  WHAT THE LAWS DO TO A MACHINE: its size, a copy, comparing, marking, holding.
  FROM WHAT THE STATEMENT SAYS OF A MACHINE TO 'ArgM'.
-/
import Derived.Test.YtgobjobppajkbaaDoorMach
import Derived.Lib.SmallJoins
namespace Go.Proofs.YtgobjobppajkbaaDoor
open Go.ChangeShapes Go.WideShapes Go.RowKit
set_option linter.unusedVariables false

/-- The caller's machine. -/
def ArgM (w : World) (v : Value) (ns ds : List Int) : Prop := ∃ v1 v2, v = .agg #[v1, v2] ∧ ArgI w v1 ns ∧ ArgI w v2 ds ∧ ns.length ≤ maxLen ∧ ds.length ≤ maxLen
theorem ArgM.kept {w w' : World} {v : Value} {ns ds : List Int} (h : ArgM w v ns ds) (hb : Below w.heap.size w w') : ArgM w' v ns ds := by
  obtain ⟨v1, v2, rfl, h1, h2, h3⟩ := h
  exact ⟨v1, v2, rfl, h1.kept hb (Nat.le_refl _), h2.kept hb (Nat.le_refl _), h3⟩
/-- A machine of the call's own, its lists in blocks lo to hi - 1, not in one. -/
def MacAt (w : World) (lo hi : Nat) (v : Value) (ns ds : List Int) : Prop :=
  hi ≤ w.heap.size ∧ ∃ a1 c1 a2 c2, v = .agg #[.slice a1 ns.length c1, .slice a2 ds.length c2] ∧ RowIn w lo hi a1 ns ∧ RowIn w lo hi a2 ds ∧ (ns ≠ [] → ds ≠ [] → a1 ≠ a2)
theorem MacAt.of {w w' : World} {lo hi : Nat} {v : Value} {ns ds : List Int} (h : MacAt w lo hi v ns ds) (hs : w.heap.size ≤ w'.heap.size) (he : ∀ g, lo ≤ g → g < hi → w'.heap[g]? = w.heap[g]?) : MacAt w' lo hi v ns ds := by
  obtain ⟨h1, a1, c1, a2, c2, rfl, h2, h3, h4⟩ := h
  exact ⟨Nat.le_trans h1 hs, a1, c1, a2, c2, rfl, h2.of he, h3.of he, h4⟩
theorem MacAt.kept {w w' : World} {lo hi : Nat} {v : Value} {ns ds : List Int} (h : MacAt w lo hi v ns ds) (hb : Below w.heap.size w w') : MacAt w' lo hi v ns ds :=
  h.of hb.size (fun g _ hg => hb.block g (Nat.lt_of_lt_of_le hg h.1))
theorem MacAt.touch {w w' : World} {lo hi lo' hi' : Nat} {v : Value} {ns ds : List Int} (h : MacAt w lo hi v ns ds) (ht : Touch lo' hi' w w') (hd : hi ≤ lo' ∨ hi' ≤ lo) : MacAt w' lo hi v ns ds :=
  h.of ht.size (fun g h1 hg => ht.block g (Nat.lt_of_lt_of_le hg h.1) (by omega))
theorem MacAt.isIn {w : World} {lo hi : Nat} {v : Value} {ns ds : List Int} (h : MacAt w lo hi v ns ds) : MacIn w v ns ds := by
  obtain ⟨h1, a1, c1, a2, c2, rfl, h2, h3, _⟩ := h
  exact ⟨_, _, rfl, h2.isIn h1, h3.isIn h1⟩

/-- What the size leaves. -/
def szM (n m : Nat) : Int := if 1048576 < n + m then -1 else 1048576 - (n : Int) - (m : Int)
theorem eqMachine_any (ns ds : List Int) (v v' : Value) (w : World) (h1 : ns.length ≤ 1048576) (h2 : ds.length ≤ 1048576) (h : MacIn w v ns ds) (h' : MacIn w v' ns ds) :
    Calls Tryd.prog 16 #[v, v'] w fun e w' => e = .returned (.bool true) ∧ Below w.heap.size w w' := by
  obtain ⟨v1, v2, rfl, i1, i2⟩ := h
  obtain ⟨v1', v2', rfl, i1', i2'⟩ := h'
  have HC1 := Lib.hid (fun W (hb : Below w.heap.size w W) => eqIntS_any ns v1 v1' W (by omega) (i1.kept hb) (i1'.kept hb))
  have HC2 := Lib.hid (fun W (hb : Below w.heap.size w W) => eqIntS_any ds v2 v2' W (by omega) (i2.kept hb) (i2'.kept hb))
  clear i1 i2 i1' i2' h1 h2
  have hb0 : Below w.heap.size w ((w.alloc (.cells #[v1, v2] 34)).alloc (.cells #[v1', v2'] 34)) := ((Below.refl _ w).alloc (Nat.le_refl _) _).alloc (by simp) _
  have l0 : w.heap.size < ((w.alloc (.cells #[v1, v2] 34)).alloc (.cells #[v1', v2'] 34)).heap.size := by simp; omega
  have l1 : w.heap.size + 1 < ((w.alloc (.cells #[v1, v2] 34)).alloc (.cells #[v1', v2'] 34)).heap.size := by simp
  have k0 : ((w.alloc (.cells #[v1, v2] 34)).alloc (.cells #[v1', v2'] 34)).cell? ⟨w.heap.size, 1, none⟩ = some v2 := by go_simp
  have k1 : ((w.alloc (.cells #[v1, v2] 34)).alloc (.cells #[v1', v2'] 34)).cell? ⟨w.heap.size + 1, 1, none⟩ = some v2' := by go_simp
  have HK := Lib.hid (And.intro (And.intro l0 l1) (And.intro k0 k1))
  have HB0 := Lib.hid hb0
  clear k0 k1 l0 l1 hb0
  go_enter Tryd.func16, Tryd.ntmps16
  go_wp2_with fail
  refine (HC1.out _ HB0.out).mono ?_
  rintro e w1 ⟨rfl, hb1⟩
  have k0 := kept_cell hb1 HK.out.1.1 HK.out.2.1
  have k1 := kept_cell hb1 HK.out.1.2 HK.out.2.2
  have HB1 := Lib.hid (HB0.out.trans (hb1.mono HB0.out.size))
  clear hb1
  go_wp2_with fail
  refine (HC2.out _ HB1.out).mono ?_
  rintro e w2 ⟨rfl, hb2⟩
  have HB2 := Lib.hid (HB1.out.trans (hb2.mono HB1.out.size))
  clear hb2 k0 k1
  go_wp2_with fail
  go_ret
  exact ⟨rfl, HB2.out⟩

set_option maxHeartbeats 1000000 in
theorem markMachine_any (ns ds : List Int) (v : Value) (lo hi : Nat) (w : World) (h1 : ns.length ≤ 1048576) (h2 : ds.length ≤ 1048576) (h : MacAt w lo hi v ns ds) :
    Calls Tryd.prog 17 #[v, .int .i64 1] w fun e w' => e = .returned (.int .i64 (1 + (ns.length : Int) + (ds.length : Int))) ∧ Touch lo hi w w' ∧ MacAt w' lo hi v (markK 1 ns.length) (markK (1 + (ns.length : Int)) ds.length) := by
  obtain ⟨hh, a1, c1, a2, c2, rfl, q1, q2, q3⟩ := h
  have HC1 := Lib.hid (fun W (hs : hi ≤ W.heap.size) (hq : RowIn W lo hi a1 ns) => markIntS_k ns 1 lo hi a1 c1 W (by omega) (by omega) hs h1 hq)
  have HC2 := Lib.hid (fun W (hs : hi ≤ W.heap.size) (hq : RowIn W lo hi a2 ds) => markIntS_k ds (1 + (ns.length : Int)) lo hi a2 c2 W (by omega) (by omega) hs h2 hq)
  have Q3 := Lib.hid q3
  have HH := Lib.hid hh
  have Q1 := Lib.hid (q1.of (w' := w.alloc (.cells #[.slice a1 ns.length c1, .slice a2 ds.length c2] 34)) (fun g _ hg => ((Below.refl w.heap.size w).alloc (Nat.le_refl _) _).block g (by omega)))
  have Q2 := Lib.hid (q2.of (w' := w.alloc (.cells #[.slice a1 ns.length c1, .slice a2 ds.length c2] 34)) (fun g _ hg => ((Below.refl w.heap.size w).alloc (Nat.le_refl _) _).block g (by omega)))
  have hk1 : (ns.length : Int) ≤ 1048576 := by omega
  have hk2 : (ds.length : Int) ≤ 1048576 := by omega
  have k0 : (w.alloc (.cells #[.slice a1 ns.length c1, .slice a2 ds.length c2] 34)).cell? ⟨w.heap.size, 1, none⟩ = some (.slice a2 ds.length c2) := by go_simp
  have K0 := Lib.hid k0
  have HN : Hid (ns.length = 0 → ns = []) := Lib.hid (fun e => List.eq_nil_of_length_eq_zero e)
  have HM : Hid (ds.length = 0 → ds = []) := Lib.hid (fun e => List.eq_nil_of_length_eq_zero e)
  clear q1 q2 q3 h1 h2 hh k0
  go_enter Tryd.func17, Tryd.ntmps17
  go_wp2_with fail
  refine (HC1.out _ (by have := HH.out; simp; omega) Q1.out).mono ?_
  rintro e w1 ⟨rfl, t1, o1, r1⟩
  have hs1 : w.heap.size < w1.heap.size := by have := t1.size; simp at this; omega
  have hbk : w1.heap[w.heap.size]? = (w.alloc (.cells #[.slice a1 ns.length c1, .slice a2 ds.length c2] 34)).heap[w.heap.size]? := t1.block _ (by simp) (by have := HH.out; omega)
  have k1 : w1.cell? ⟨w.heap.size, 1, none⟩ = some (.slice a2 ds.length c2) := (World.cell?_of_block (a := ⟨w.heap.size, 1, none⟩) hbk).trans K0.out
  have hq2 : RowIn w1 lo hi a2 ds := by
    intro hn
    obtain ⟨g, rfl, l1, l2, l3⟩ := Q2.out hn
    refine ⟨g, rfl, l1, l2, l3.of (o1 g ?_)⟩
    rintro hp g' rfl rfl
    exact Q3.out (by intro e; rw [e] at hp; simp at hp) hn rfl
  have T1 := Lib.hid t1
  have R1 := Lib.hid r1
  have Q5 := Lib.hid hq2
  have HS1 := Lib.hid (show hi ≤ w1.heap.size by have := HH.out; omega)
  clear t1 o1 r1 hbk hq2
  go_wp2_with fail
  refine (HC2.out _ HS1.out Q5.out).mono ?_
  rintro e w2 ⟨rfl, t2, o2, r2⟩
  have hq1 : RowIn w2 lo hi a1 (markK 1 ns.length) := by
    intro hn
    obtain ⟨g, rfl, l1, l2, l3⟩ := R1.out hn
    refine ⟨g, rfl, l1, l2, l3.of (o2 g ?_)⟩
    rintro hp g' rfl rfl
    exact Q3.out (by rintro rfl; exact hn rfl) (by rintro rfl; simp at hp) rfl
  have T2 := Lib.hid ((Touch.of_below ((Below.refl w.heap.size w).alloc (Nat.le_refl _) _)).trans (T1.out.trans t2))
  have R2 := Lib.hid r2
  have Q6 := Lib.hid hq1
  clear t2 o2 r2 hq1 k1
  go_wp2_with fail
  go_ret
  refine ⟨rfl, T2.out, ⟨?_, a1, c1, a2, c2, by rw [markK_length, markK_length], Q6.out, R2.out, ?_⟩⟩
  · have := T2.out.size
    have := HH.out
    omega
  · intro n1 n2
    refine Q3.out ?_ ?_
    · rintro rfl; exact n1 rfl
    · rintro rfl; exact n2 rfl

set_option maxHeartbeats 1000000 in
theorem heldMachine_any (n d : Nat) (v : Value) (lo hi : Nat) (w : World) (h1 : n ≤ 1048576) (h2 : d ≤ 1048576) (h : MacAt w lo hi v (markK 1 n) (markK (1 + (n : Int)) d)) :
    Calls Tryd.prog 18 #[v, .int .i64 1] w fun e w' => e = .returned (.int .i64 (1 + (n : Int) + (d : Int))) ∧ Below w.heap.size w w' := by
  obtain ⟨hh, a1, c1, a2, c2, rfl, q1, q2, _⟩ := h
  rw [markK_length, markK_length]
  have HC1 := Lib.hid (fun W (hs : hi ≤ W.heap.size) (hq : RowIn W lo hi a1 (markK 1 n)) => heldIntS_k n 1 lo hi a1 c1 W (by omega) (by omega) hs h1 hq)
  have HC2 := Lib.hid (fun W (hs : hi ≤ W.heap.size) (hq : RowIn W lo hi a2 (markK (1 + (n : Int)) d)) => heldIntS_k d (1 + (n : Int)) lo hi a2 c2 W (by omega) (by omega) hs h2 hq)
  have Q1 := Lib.hid (q1.of (w' := w.alloc (.cells #[.slice a1 n c1, .slice a2 d c2] 34)) (fun g _ hg => ((Below.refl w.heap.size w).alloc (Nat.le_refl _) _).block g (by omega)))
  have Q2 := Lib.hid (q2.of (w' := w.alloc (.cells #[.slice a1 n c1, .slice a2 d c2] 34)) (fun g _ hg => ((Below.refl w.heap.size w).alloc (Nat.le_refl _) _).block g (by omega)))
  have HH := Lib.hid (show hi ≤ (w.alloc (.cells #[.slice a1 n c1, .slice a2 d c2] 34)).heap.size by simp; omega)
  have hk1 : (n : Int) ≤ 1048576 := by omega
  have hk2 : (d : Int) ≤ 1048576 := by omega
  have hd1 : ¬ (1 + (n : Int) < 0) := by omega
  have hd2 : ¬ (1 + (n : Int) + (d : Int) < 0) := by omega
  clear q1 q2 h1 h2 hh
  go_enter Tryd.func18, Tryd.ntmps18
  go_wp2_with fail
  refine (HC1.out _ HH.out Q1.out).mono ?_
  rintro e w1 ⟨rfl, rfl⟩
  go_wp2_with fail
  refine (HC2.out _ HH.out Q2.out).mono ?_
  rintro e w1 ⟨rfl, rfl⟩
  go_wp2_with fail
  go_ret
  exact ⟨rfl, (Below.refl w.heap.size w).alloc (Nat.le_refl _) _⟩
end Go.Proofs.YtgobjobppajkbaaDoor

namespace Go.Proofs.YtgobjobppajkbaaDoor
open Go.ChangeShapes Go.WideShapes Go.RowKit Go.Joins
set_option linter.unusedVariables false

theorem argI_of_cells {H : Type} {enc : TypeId × Value → H} {W : World} {v : Value} {n : Nat} {x : DataW H × List MemPlace} (hf : DataW.trod enc Tryd.prog W 0 (fun _ => true) true n 32 [v] = some x) : ∃ xs, ArgI W v xs ∧ xs.length ≤ maxLen := by
  rcases open_ints Tryd.underlying32 Tryd.underlying3 cellsInt hf with ⟨hcs, hx⟩ | ⟨a, len', cap', zs, hcs, _, hl, hm, hz, hx, hcell, hwz⟩
  · simp at hcs
    subst hcs
    exact ⟨[], ⟨none, 0, rfl, fun h => (h rfl).elim⟩, by simp⟩
  · simp at hcs
    subst hcs
    simp only [if_true] at hz
    have hlen : (zs.take len').length = len' := by rw [List.length_take]; omega
    refine ⟨zs.take len', ⟨some a, cap', by rw [hlen], fun hne => ?_⟩, by omega⟩
    have hpos : 0 < len' := by
      rcases Nat.eq_zero_or_pos len' with h0 | h0
      · subst h0; exact (hne (by simp)).elim
      · exact h0
    obtain ⟨b, off, spot⟩ := a
    have hspot : spot = none := by simpa [Addr.add] using World.cell?_spot (hcell 0 (by omega))
    subst hspot
    refine ⟨b, off, rfl, ?_, fun j hj => ?_⟩
    · have := cell_heap (hcell 0 (by omega))
      rwa [add_plain] at this
    · rw [hlen] at hj
      have := hcell j (by omega)
      rw [add_plain] at this
      rw [this, List.getD, List.getD, List.getElem?_take, if_pos hj]
end Go.Proofs.YtgobjobppajkbaaDoor
