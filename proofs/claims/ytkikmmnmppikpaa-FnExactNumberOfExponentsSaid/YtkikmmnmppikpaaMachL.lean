/-
  WHAT THE LAWS DO TO A MACHINE: its size, a copy, comparing, marking, holding.
-/
import Derived.Test.YtkikmmnmppikpaaMach
import Derived.Test.YtkikmmnmppikpaaMarkK
import Derived.Test.YtkikmmnmppikpaaArgOpen
namespace Go.Proofs.Ytkikmmnmppikpaa
open Go.ChangeShapes Go.WideShapes Go.RowKit
set_option linter.unusedVariables false

/-- The caller's machine. -/
def ArgM (w : World) (v : Value) (ns ds : List Int) : Prop := ∃ v1 v2, v = .agg #[v1, v2] ∧ ArgI w v1 ns ∧ ArgI w v2 ds ∧ ns.length ≤ maxLen ∧ ds.length ≤ maxLen
theorem ArgM.kept {w w' : World} {v : Value} {ns ds : List Int} (h : ArgM w v ns ds) (hb : Below w.heap.size w w') : ArgM w' v ns ds := by
  obtain ⟨v1, v2, rfl, h1, h2, h3⟩ := h
  exact ⟨v1, v2, rfl, h1.kept hb (Nat.le_refl _), h2.kept hb (Nat.le_refl _), h3⟩
/-- A machine of the call's own, its lists in blocks lo to hi - 1, not in one. -/
def MacAt (w : World) (lo hi : Nat) (v : Value) (ns ds : List Int) : Prop :=
  hi ≤ w.heap.size ∧ ∃ a1 c1 a2 c2, v = .agg #[.slice a1 ns.length c1, .slice a2 ds.length c2] ∧ RowIn w lo hi a1 ns ∧ RowIn w lo hi a2 ds ∧ (ns ≠ [] → ds ≠ [] → a1 ≠ a2)
theorem MacAt.of {w w' : World} {lo hi : Nat} {v : Value} {ns ds : List Int} (h : MacAt w lo hi v ns ds) (hs : w.heap.size ≤ w'.heap.size) (he : ∀ g, lo ≤ g → g < hi → w'.heap[g]? = w.heap[g]?) : MacAt w' lo hi v ns ds := by
  obtain ⟨h1, a1, c1, a2, c2, rfl, h2, h3, h4⟩ := h
  exact ⟨Nat.le_trans h1 hs, a1, c1, a2, c2, rfl, h2.of he, h3.of he, h4⟩
theorem MacAt.kept {w w' : World} {lo hi : Nat} {v : Value} {ns ds : List Int} (h : MacAt w lo hi v ns ds) (hb : Below w.heap.size w w') : MacAt w' lo hi v ns ds :=
  h.of hb.size (fun g _ hg => hb.block g (Nat.lt_of_lt_of_le hg h.1))
theorem MacAt.touch {w w' : World} {lo hi lo' hi' : Nat} {v : Value} {ns ds : List Int} (h : MacAt w lo hi v ns ds) (ht : Touch lo' hi' w w') (hd : hi ≤ lo' ∨ hi' ≤ lo) : MacAt w' lo hi v ns ds :=
  h.of ht.size (fun g h1 hg => ht.block g (Nat.lt_of_lt_of_le hg h.1) (by omega))
theorem MacAt.isIn {w : World} {lo hi : Nat} {v : Value} {ns ds : List Int} (h : MacAt w lo hi v ns ds) : MacIn w v ns ds := by
  obtain ⟨h1, a1, c1, a2, c2, rfl, h2, h3, _⟩ := h
  exact ⟨_, _, rfl, h2.isIn h1, h3.isIn h1⟩

theorem szIntS_yes (a : Option Addr) (n cap : Nat) (l : Int) (w : World) (h0 : 0 ≤ l) (h1 : l ≤ 1048576) (h : (n : Int) ≤ l) :
    Calls Try.prog 45 #[.slice a n cap, .int .i64 l] w fun e w' => e = .returned (.int .i64 (l - (n : Int))) ∧ w = w' := by
  have h2 : ¬ (l - (n : Int) < 0) := by omega
  go_enter Try.func45, Try.ntmps45
  go_wp2_with fail
  go_ret
  exact ⟨rfl, rfl⟩
theorem szIntS_no (a : Option Addr) (n cap : Nat) (l : Int) (w : World) (hn : n ≤ maxLen) (h0 : 0 ≤ l) (h1 : l ≤ 1048576) (h : l < (n : Int)) :
    Calls Try.prog 45 #[.slice a n cap, .int .i64 l] w fun e w' => e = .returned (.int .i64 (-1)) ∧ w = w' := by
  have h3 : (n : Int) ≤ 9223372036854775807 := by unfold maxLen at hn; omega
  have h2 : l - (n : Int) < 0 := by omega
  go_enter Try.func45, Try.ntmps45
  go_wp2_with fail
  go_ret
  exact ⟨rfl, rfl⟩
/-- What the size leaves. -/
def szM (n m : Nat) : Int := if 1048576 < n + m then -1 else 1048576 - (n : Int) - (m : Int)
theorem szMachine_any (ns ds : List Int) (v : Value) (w : World) (h : ArgM w v ns ds) :
    Calls Try.prog 39 #[v, .int .i64 1048576] w fun e w' => e = .returned (.int .i64 (szM ns.length ds.length)) ∧ Below w.heap.size w w' := by
  obtain ⟨v1, v2, rfl, ⟨a1, c1, rfl, _⟩, ⟨a2, c2, rfl, _⟩, h1, h2⟩ := h
  have HB := Lib.hid (fun X => (Below.refl w.heap.size w).alloc (Nat.le_refl _) X)
  generalize ns.length = n at *
  generalize ds.length = m at *
  by_cases hn : 1048576 < n
  · have HC := Lib.hid (fun w => szIntS_no a1 n c1 1048576 w h1 (by omega) (by omega) (by omega))
    have HE : Hid (szM n m = -1) := Lib.hid (by rw [szM, if_pos (by omega)])
    clear h1 h2 hn
    go_enter Try.func39, Try.ntmps39
    go_wp2_with fail
    refine (HC.out _).mono ?_
    rintro e w2 ⟨rfl, rfl⟩
    go_wp2_with fail
    go_ret
    exact ⟨ret_int HE.out.symm, HB.out _⟩
  · have HC := Lib.hid (fun w => szIntS_yes a1 n c1 1048576 w (by omega) (by omega) (by omega))
    have hk0 : ¬ (1048576 - (n : Int) < 0) := by omega
    by_cases hm : 1048576 < n + m
    · have HD := Lib.hid (fun w => szIntS_no a2 m c2 (1048576 - (n : Int)) w h2 (by omega) (by omega) (by omega))
      have HE : Hid (szM n m = -1) := Lib.hid (by rw [szM, if_pos (by omega)])
      clear h1 h2 hn hm
      generalize 1048576 - (n : Int) = l at *
      go_enter Try.func39, Try.ntmps39
      go_wp2_with fail
      refine (HC.out _).mono ?_
      rintro e w2 ⟨rfl, rfl⟩
      go_wp2_with fail
      refine (HD.out _).mono ?_
      rintro e w2 ⟨rfl, rfl⟩
      go_wp2_with fail
      go_ret
      exact ⟨ret_int HE.out.symm, HB.out _⟩
    · have HD := Lib.hid (fun w => szIntS_yes a2 m c2 (1048576 - (n : Int)) w (by omega) (by omega) (by omega))
      have HE : Hid (szM n m = 1048576 - (n : Int) - (m : Int)) := Lib.hid (by rw [szM, if_neg (by omega)])
      have hk1 : ¬ (1048576 - (n : Int) - (m : Int) < 0) := by omega
      clear h1 h2 hn hm
      generalize 1048576 - (n : Int) = l at *
      generalize l - (m : Int) = l2 at *
      go_enter Try.func39, Try.ntmps39
      go_wp2_with fail
      refine (HC.out _).mono ?_
      rintro e w2 ⟨rfl, rfl⟩
      go_wp2_with fail
      refine (HD.out _).mono ?_
      rintro e w2 ⟨rfl, rfl⟩
      go_wp2_with fail
      go_ret
      exact ⟨ret_int HE.out.symm, HB.out _⟩

set_option maxHeartbeats 1000000 in
theorem toMachine_any (ns ds : List Int) (v : Value) (w : World) (h1 : ns.length ≤ 1048576) (h2 : ds.length ≤ 1048576) (h : ArgM w v ns ds) :
    Calls Try.prog 41 #[v] w fun e w' => ∃ v', e = .returned v' ∧ MacAt w' w.heap.size w'.heap.size v' ns ds ∧ Below w.heap.size w w' := by
  obtain ⟨v1, v2, rfl, i1, i2, _⟩ := h
  have HC1 := Lib.hid (fun W (hb : Below w.heap.size w W) => toIntS_any ns v1 W h1 (i1.kept hb (Nat.le_refl _)))
  have HC2 := Lib.hid (fun W (hb : Below w.heap.size w W) => toIntS_any ds v2 W h2 (i2.kept hb (Nat.le_refl _)))
  obtain ⟨a1, c1, rfl, _⟩ := i1
  obtain ⟨a2, c2, rfl, _⟩ := i2
  clear h1 h2
  go_enter Try.func41, Try.ntmps41
  go_wp2_with fail
  have hb0 : Below w.heap.size w (((w.alloc (.cells #[.slice a1 ns.length c1, .slice a2 ds.length c2] 34)).alloc (.cells #[.slice none 0 0, .slice none 0 0] 26)).alloc (.cells #[.slice none 0 0, .slice none 0 0] 26)) := (((Below.refl _ w).alloc (Nat.le_refl _) _).alloc (by simp) _).alloc (by simp; omega) _
  refine (HC1.out _ hb0).mono ?_
  rintro e w1 ⟨u1, rfl, r1, hb1⟩
  have hz1 : w.heap.size + 2 < w1.heap.size := by have := hb1.size; simp at this; omega
  have l0 : w.heap.size < (((w.alloc (.cells #[.slice a1 ns.length c1, .slice a2 ds.length c2] 34)).alloc (.cells #[.slice none 0 0, .slice none 0 0] 26)).alloc (.cells #[.slice none 0 0, .slice none 0 0] 26)).heap.size := by simp; omega
  have l1 : w.heap.size + 1 < (((w.alloc (.cells #[.slice a1 ns.length c1, .slice a2 ds.length c2] 34)).alloc (.cells #[.slice none 0 0, .slice none 0 0] 26)).alloc (.cells #[.slice none 0 0, .slice none 0 0] 26)).heap.size := by simp
  have l2 : w.heap.size + 1 + 1 < (((w.alloc (.cells #[.slice a1 ns.length c1, .slice a2 ds.length c2] 34)).alloc (.cells #[.slice none 0 0, .slice none 0 0] 26)).alloc (.cells #[.slice none 0 0, .slice none 0 0] 26)).heap.size := by simp
  have k1 : w1.cell? ⟨w.heap.size, 1, none⟩ = some (.slice a2 ds.length c2) := (hb1.cell (p := ⟨w.heap.size, 1, none⟩) l0).trans (by go_simp)
  have r0 : w1.cell? ⟨w.heap.size + 1, 0, none⟩ = some (.slice none 0 0) := (hb1.cell (p := ⟨w.heap.size + 1, 0, none⟩) l1).trans (by go_simp)
  have r0' : w1.cell? ⟨w.heap.size + 1, 1, none⟩ = some (.slice none 0 0) := (hb1.cell (p := ⟨w.heap.size + 1, 1, none⟩) l1).trans (by go_simp)
  have fr0 : w1.frozen? ⟨w.heap.size + 1, 0, none⟩ = false := (hb1.frozen (p := ⟨w.heap.size + 1, 0, none⟩) l1).trans (by go_simp)
  have fr1 : w1.frozen? ⟨w.heap.size + 1, 1, none⟩ = false := (hb1.frozen (p := ⟨w.heap.size + 1, 1, none⟩) l1).trans (by go_simp)
  have o0 : w1.cell? ⟨w.heap.size + 1 + 1, 0, none⟩ = some (.slice none 0 0) := (hb1.cell (p := ⟨w.heap.size + 1 + 1, 0, none⟩) l2).trans (by go_simp)
  have o1 : w1.cell? ⟨w.heap.size + 1 + 1, 1, none⟩ = some (.slice none 0 0) := (hb1.cell (p := ⟨w.heap.size + 1 + 1, 1, none⟩) l2).trans (by go_simp)
  have fo0 : w1.frozen? ⟨w.heap.size + 1 + 1, 0, none⟩ = false := (hb1.frozen (p := ⟨w.heap.size + 1 + 1, 0, none⟩) l2).trans (by go_simp)
  have fo1 : w1.frozen? ⟨w.heap.size + 1 + 1, 1, none⟩ = false := (hb1.frozen (p := ⟨w.heap.size + 1 + 1, 1, none⟩) l2).trans (by go_simp)
  have hbw1 := hb0.trans (hb1.mono (by simp; omega))
  obtain ⟨p1, d1, rfl, q1⟩ := r1.rowIn
  have Q1 := Lib.hid (q1.wide (lo' := w.heap.size + 3) (hi' := w1.heap.size) (by simp) (Nat.le_refl _))
  clear l0 l1 l2 hb0 hb1 r1 q1
  go_wp2_with fail
  have hbs : Below w.heap.size w (w1.setCell ⟨w.heap.size + 1 + 1, 0, none⟩ (.slice p1 ns.length d1)) := hbw1.setCell (p := ⟨w.heap.size + 1 + 1, 0, none⟩) (by simp; omega) _
  refine (HC2.out _ hbs).mono ?_
  have HS := Lib.hid (show (w1.setCell ⟨w.heap.size + 1 + 1, 0, none⟩ (.slice p1 ns.length d1)).heap.size = w1.heap.size by simp)
  have O0 : (w1.setCell ⟨w.heap.size + 1 + 1, 0, none⟩ (.slice p1 ns.length d1)).cell? ⟨w.heap.size + 1 + 1, 0, none⟩ = some (.slice p1 ns.length d1) := World.cell?_setCell_same' _ _ _ (by rw [o0]; rfl)
  have O1 : (w1.setCell ⟨w.heap.size + 1 + 1, 0, none⟩ (.slice p1 ns.length d1)).cell? ⟨w.heap.size + 1 + 1, 1, none⟩ = some (.slice none 0 0) := (World.cell?_setCell_other _ _ _ _ (by simp)).trans o1
  have R0 : (w1.setCell ⟨w.heap.size + 1 + 1, 0, none⟩ (.slice p1 ns.length d1)).cell? ⟨w.heap.size + 1, 0, none⟩ = some (.slice none 0 0) := (World.cell?_setCell_other _ _ _ _ (by simp)).trans r0
  have R1 : (w1.setCell ⟨w.heap.size + 1 + 1, 0, none⟩ (.slice p1 ns.length d1)).cell? ⟨w.heap.size + 1, 1, none⟩ = some (.slice none 0 0) := (World.cell?_setCell_other _ _ _ _ (by simp)).trans r0'
  have F1 : (w1.setCell ⟨w.heap.size + 1 + 1, 0, none⟩ (.slice p1 ns.length d1)).frozen? ⟨w.heap.size + 1 + 1, 1, none⟩ = false := by rw [World.frozen?_setCell]; exact fo1
  have G0 : (w1.setCell ⟨w.heap.size + 1 + 1, 0, none⟩ (.slice p1 ns.length d1)).frozen? ⟨w.heap.size + 1, 0, none⟩ = false := by rw [World.frozen?_setCell]; exact fr0
  have G1 : (w1.setCell ⟨w.heap.size + 1 + 1, 0, none⟩ (.slice p1 ns.length d1)).frozen? ⟨w.heap.size + 1, 1, none⟩ = false := by rw [World.frozen?_setCell]; exact fr1
  have Q2 : Hid (RowIn (w1.setCell ⟨w.heap.size + 1 + 1, 0, none⟩ (.slice p1 ns.length d1)) (w.heap.size + 3) w1.heap.size p1 ns) := Lib.hid (Q1.out.of (fun g hg _ => Below.heap_setCell _ _ _ _ (by simp; omega)))
  clear o0 o1 r0 r0' fo0 fo1 fr0 fr1 k1 Q1 hbw1
  generalize w1.setCell ⟨w.heap.size + 1 + 1, 0, none⟩ (.slice p1 ns.length d1) = W at *
  have hS := HS.out
  rintro e w2 ⟨u2, rfl, r2, hb2⟩
  have hz : w.heap.size + 2 < W.heap.size := by omega
  have k0 := kept_cell hb2 (by omega) O0
  have k1 := kept_cell hb2 (by omega) O1
  have k2 := kept_cell hb2 (by omega) R0
  have k3 := kept_cell hb2 (by omega) R1
  have k4 := kept_free hb2 (by omega) F1
  have k5 := kept_free hb2 (by omega) G0
  have k6 := kept_free hb2 (by omega) G1
  have Q3 := Lib.hid (Q2.out.of (fun g hg hg2 => hb2.block g (by omega)))
  obtain ⟨p2, d2, rfl, q4⟩ := r2.rowIn
  have Q4 := Lib.hid q4
  have hbe := hbs.trans (hb2.mono (by omega))
  have hz2 : w1.heap.size ≤ w2.heap.size := by rw [← hS]; exact hb2.size
  rw [hS] at Q4
  have HZ := Lib.hid (And.intro hz1 hz2)
  clear O0 O1 R0 R1 F1 G0 G1 hbs hb2 r2 q4 hS Q2 HS hz
  go_wp2_with fail
  refine bodyPost_ret (v := .agg #[.slice p1 ns.length d1, .slice p2 ds.length d2]) (by simp [results, Try.f41, go_sem, k2, k3]) rfl ⟨_, rfl, ⟨by simp, p1, d1, p2, d2, rfl, ?_, ?_, ?_⟩, ?_⟩
  · have h := Q3.out.wide (lo' := w.heap.size + 3) (hi' := w2.heap.size) (Nat.le_refl _) HZ.out.2
    simp only [World.size_setCell]
    refine RowIn.wide (lo := w.heap.size + 3) (hi := w2.heap.size) ?_ (by omega) (Nat.le_refl _)
    refine h.of (fun g hg _ => ?_)
    rw [Below.heap_setCell _ _ _ _ (by simp; omega), Below.heap_setCell _ _ _ _ (by simp; omega), Below.heap_setCell _ _ _ _ (by simp; omega)]
  · have h := Q4.out
    simp only [World.size_setCell]
    refine RowIn.wide (lo := w1.heap.size) (hi := w2.heap.size) ?_ (by have := HZ.out; omega) (Nat.le_refl _)
    refine h.of (fun g hg _ => ?_)
    have := HZ.out
    rw [Below.heap_setCell _ _ _ _ (by simp; omega), Below.heap_setCell _ _ _ _ (by simp; omega), Below.heap_setCell _ _ _ _ (by simp; omega)]
  · intro n1 n2 e
    obtain ⟨g, e1, _, l1, _⟩ := Q3.out n1
    obtain ⟨g', e2, l2, _, _⟩ := Q4.out n2
    have e3 : g = g' := by rw [e1, e2] at e; injection e with e; injection e
    omega
  · exact ((hbe.setCell (by simp; omega) _).setCell (by simp) _).setCell (by simp) _

theorem eqMachine_any (ns ds : List Int) (v v' : Value) (w : World) (h1 : ns.length ≤ 1048576) (h2 : ds.length ≤ 1048576) (h : MacIn w v ns ds) (h' : MacIn w v' ns ds) :
    Calls Try.prog 36 #[v, v'] w fun e w' => e = .returned (.bool true) ∧ Below w.heap.size w w' := by
  obtain ⟨v1, v2, rfl, i1, i2⟩ := h
  obtain ⟨v1', v2', rfl, i1', i2'⟩ := h'
  have HC1 := Lib.hid (fun W (hb : Below w.heap.size w W) => eqIntS_any ns v1 v1' W (by omega) (i1.kept hb) (i1'.kept hb))
  have HC2 := Lib.hid (fun W (hb : Below w.heap.size w W) => eqIntS_any ds v2 v2' W (by omega) (i2.kept hb) (i2'.kept hb))
  clear i1 i2 i1' i2' h1 h2
  have hb0 : Below w.heap.size w ((w.alloc (.cells #[v1, v2] 26)).alloc (.cells #[v1', v2'] 26)) := ((Below.refl _ w).alloc (Nat.le_refl _) _).alloc (by simp) _
  have l0 : w.heap.size < ((w.alloc (.cells #[v1, v2] 26)).alloc (.cells #[v1', v2'] 26)).heap.size := by simp; omega
  have l1 : w.heap.size + 1 < ((w.alloc (.cells #[v1, v2] 26)).alloc (.cells #[v1', v2'] 26)).heap.size := by simp
  have k0 : ((w.alloc (.cells #[v1, v2] 26)).alloc (.cells #[v1', v2'] 26)).cell? ⟨w.heap.size, 1, none⟩ = some v2 := by go_simp
  have k1 : ((w.alloc (.cells #[v1, v2] 26)).alloc (.cells #[v1', v2'] 26)).cell? ⟨w.heap.size + 1, 1, none⟩ = some v2' := by go_simp
  have HK := Lib.hid (And.intro (And.intro l0 l1) (And.intro k0 k1))
  have HB0 := Lib.hid hb0
  clear k0 k1 l0 l1 hb0
  go_enter Try.func36, Try.ntmps36
  go_wp2_with fail
  refine (HC1.out _ HB0.out).mono ?_
  rintro e w1 ⟨rfl, hb1⟩
  have k0 := kept_cell hb1 HK.out.1.1 HK.out.2.1
  have k1 := kept_cell hb1 HK.out.1.2 HK.out.2.2
  have HB1 := Lib.hid (HB0.out.trans (hb1.mono HB0.out.size))
  clear hb1
  go_wp2_with fail
  refine (HC2.out _ HB1.out).mono ?_
  rintro e w2 ⟨rfl, hb2⟩
  have HB2 := Lib.hid (HB1.out.trans (hb2.mono HB1.out.size))
  clear hb2 k0 k1
  go_wp2_with fail
  go_ret
  exact ⟨rfl, HB2.out⟩

set_option maxHeartbeats 1000000 in
theorem markMachine_any (ns ds : List Int) (v : Value) (lo hi : Nat) (w : World) (h1 : ns.length ≤ 1048576) (h2 : ds.length ≤ 1048576) (h : MacAt w lo hi v ns ds) :
    Calls Try.prog 37 #[v, .int .i64 1] w fun e w' => e = .returned (.int .i64 (1 + (ns.length : Int) + (ds.length : Int))) ∧ Touch lo hi w w' ∧ MacAt w' lo hi v (markK 1 ns.length) (markK (1 + (ns.length : Int)) ds.length) := by
  obtain ⟨hh, a1, c1, a2, c2, rfl, q1, q2, q3⟩ := h
  have HC1 := Lib.hid (fun W (hs : hi ≤ W.heap.size) (hq : RowIn W lo hi a1 ns) => markIntS_k ns 1 lo hi a1 c1 W (by omega) (by omega) hs h1 hq)
  have HC2 := Lib.hid (fun W (hs : hi ≤ W.heap.size) (hq : RowIn W lo hi a2 ds) => markIntS_k ds (1 + (ns.length : Int)) lo hi a2 c2 W (by omega) (by omega) hs h2 hq)
  have Q3 := Lib.hid q3
  have HH := Lib.hid hh
  have Q1 := Lib.hid (q1.of (w' := w.alloc (.cells #[.slice a1 ns.length c1, .slice a2 ds.length c2] 26)) (fun g _ hg => ((Below.refl w.heap.size w).alloc (Nat.le_refl _) _).block g (by omega)))
  have Q2 := Lib.hid (q2.of (w' := w.alloc (.cells #[.slice a1 ns.length c1, .slice a2 ds.length c2] 26)) (fun g _ hg => ((Below.refl w.heap.size w).alloc (Nat.le_refl _) _).block g (by omega)))
  have hk1 : (ns.length : Int) ≤ 1048576 := by omega
  have hk2 : (ds.length : Int) ≤ 1048576 := by omega
  have k0 : (w.alloc (.cells #[.slice a1 ns.length c1, .slice a2 ds.length c2] 26)).cell? ⟨w.heap.size, 1, none⟩ = some (.slice a2 ds.length c2) := by go_simp
  have K0 := Lib.hid k0
  have HN : Hid (ns.length = 0 → ns = []) := Lib.hid (fun e => List.eq_nil_of_length_eq_zero e)
  have HM : Hid (ds.length = 0 → ds = []) := Lib.hid (fun e => List.eq_nil_of_length_eq_zero e)
  clear q1 q2 q3 h1 h2 hh k0
  go_enter Try.func37, Try.ntmps37
  go_wp2_with fail
  refine (HC1.out _ (by have := HH.out; simp; omega) Q1.out).mono ?_
  rintro e w1 ⟨rfl, t1, o1, r1⟩
  have hs1 : w.heap.size < w1.heap.size := by have := t1.size; simp at this; omega
  have hbk : w1.heap[w.heap.size]? = (w.alloc (.cells #[.slice a1 ns.length c1, .slice a2 ds.length c2] 26)).heap[w.heap.size]? := t1.block _ (by simp) (by have := HH.out; omega)
  have k1 : w1.cell? ⟨w.heap.size, 1, none⟩ = some (.slice a2 ds.length c2) := (World.cell?_of_block (a := ⟨w.heap.size, 1, none⟩) hbk).trans K0.out
  have hq2 : RowIn w1 lo hi a2 ds := by
    intro hn
    obtain ⟨g, rfl, l1, l2, l3⟩ := Q2.out hn
    refine ⟨g, rfl, l1, l2, l3.of (o1 g ?_)⟩
    rintro hp g' rfl rfl
    exact Q3.out (by intro e; rw [e] at hp; simp at hp) hn rfl
  have T1 := Lib.hid t1
  have R1 := Lib.hid r1
  have Q5 := Lib.hid hq2
  have HS1 := Lib.hid (show hi ≤ w1.heap.size by have := HH.out; omega)
  clear t1 o1 r1 hbk hq2
  go_wp2_with fail
  refine (HC2.out _ HS1.out Q5.out).mono ?_
  rintro e w2 ⟨rfl, t2, o2, r2⟩
  have hq1 : RowIn w2 lo hi a1 (markK 1 ns.length) := by
    intro hn
    obtain ⟨g, rfl, l1, l2, l3⟩ := R1.out hn
    refine ⟨g, rfl, l1, l2, l3.of (o2 g ?_)⟩
    rintro hp g' rfl rfl
    exact Q3.out (by rintro rfl; exact hn rfl) (by rintro rfl; simp at hp) rfl
  have T2 := Lib.hid ((Touch.of_below ((Below.refl w.heap.size w).alloc (Nat.le_refl _) _)).trans (T1.out.trans t2))
  have R2 := Lib.hid r2
  have Q6 := Lib.hid hq1
  clear t2 o2 r2 hq1 k1
  go_wp2_with fail
  go_ret
  refine ⟨rfl, T2.out, ⟨?_, a1, c1, a2, c2, by rw [markK_length, markK_length], Q6.out, R2.out, ?_⟩⟩
  · have := T2.out.size
    have := HH.out
    omega
  · intro n1 n2
    refine Q3.out ?_ ?_
    · rintro rfl; exact n1 rfl
    · rintro rfl; exact n2 rfl

set_option maxHeartbeats 1000000 in
theorem heldMachine_any (n d : Nat) (v : Value) (lo hi : Nat) (w : World) (h1 : n ≤ 1048576) (h2 : d ≤ 1048576) (h : MacAt w lo hi v (markK 1 n) (markK (1 + (n : Int)) d)) :
    Calls Try.prog 38 #[v, .int .i64 1] w fun e w' => e = .returned (.int .i64 (1 + (n : Int) + (d : Int))) ∧ Below w.heap.size w w' := by
  obtain ⟨hh, a1, c1, a2, c2, rfl, q1, q2, _⟩ := h
  rw [markK_length, markK_length]
  have HC1 := Lib.hid (fun W (hs : hi ≤ W.heap.size) (hq : RowIn W lo hi a1 (markK 1 n)) => heldIntS_k n 1 lo hi a1 c1 W (by omega) (by omega) hs h1 hq)
  have HC2 := Lib.hid (fun W (hs : hi ≤ W.heap.size) (hq : RowIn W lo hi a2 (markK (1 + (n : Int)) d)) => heldIntS_k d (1 + (n : Int)) lo hi a2 c2 W (by omega) (by omega) hs h2 hq)
  have Q1 := Lib.hid (q1.of (w' := w.alloc (.cells #[.slice a1 n c1, .slice a2 d c2] 26)) (fun g _ hg => ((Below.refl w.heap.size w).alloc (Nat.le_refl _) _).block g (by omega)))
  have Q2 := Lib.hid (q2.of (w' := w.alloc (.cells #[.slice a1 n c1, .slice a2 d c2] 26)) (fun g _ hg => ((Below.refl w.heap.size w).alloc (Nat.le_refl _) _).block g (by omega)))
  have HH := Lib.hid (show hi ≤ (w.alloc (.cells #[.slice a1 n c1, .slice a2 d c2] 26)).heap.size by simp; omega)
  have hk1 : (n : Int) ≤ 1048576 := by omega
  have hk2 : (d : Int) ≤ 1048576 := by omega
  have hd1 : ¬ (1 + (n : Int) < 0) := by omega
  have hd2 : ¬ (1 + (n : Int) + (d : Int) < 0) := by omega
  clear q1 q2 h1 h2 hh
  go_enter Try.func38, Try.ntmps38
  go_wp2_with fail
  refine (HC1.out _ HH.out Q1.out).mono ?_
  rintro e w1 ⟨rfl, rfl⟩
  go_wp2_with fail
  refine (HC2.out _ HH.out Q2.out).mono ?_
  rintro e w1 ⟨rfl, rfl⟩
  go_wp2_with fail
  go_ret
  exact ⟨rfl, (Below.refl w.heap.size w).alloc (Nat.le_refl _) _⟩
end Go.Proofs.Ytkikmmnmppikpaa
