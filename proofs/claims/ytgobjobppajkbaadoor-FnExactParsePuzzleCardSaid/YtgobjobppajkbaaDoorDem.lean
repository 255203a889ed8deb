/-
  'spans', 'has', 'demand', 'hasNone', 'IsClue' of the program: a clue that is none is raised, and comes to a recovered door.
-/
import Derived.Test.YtgobjobppajkbaaDoorPzS
import Derived.Defers
import Derived.Recover
import Derived.Laws.Pointers
import Derived.WalkLawsBesides
import Derived.Deep.RegionHeld3
namespace Go.Proofs.YtgobjobppajkbaaDoor
open Go.RowKit
set_option linter.unusedVariables false

theorem has_any (l g n : Int) (w : World) :
    Calls Tryd.prog 142 #[.agg #[.int .i64 l, .int .i64 g], .int .i64 n] w fun e w' => e = .returned (.bool (inB n l g)) ∧ w' = w.alloc (.cells #[.int .i64 l, .int .i64 g] 163) := by
  have HE : Hid (inB n l g = (decide (l ≤ n) && decide (n ≤ g))) := Lib.hid (by unfold inB; rw [Bool.decide_and])
  by_cases h1 : l ≤ n
  · go_enter Tryd.func142, Tryd.ntmps142
    go_wp2
    go_ret
    exact ⟨ret_bool (by rw [HE.out]; simp [h1]), rfl⟩
  · go_enter Tryd.func142, Tryd.ntmps142
    go_wp2
    go_ret
    exact ⟨ret_bool (by rw [HE.out, show decide (l ≤ n) = false by simpa using h1]; rfl), rfl⟩

/-- What 'spans' hands back tells the bounds of A, and, if A is within, of B. -/
def RetSp (k a b : Int) (w : World) (e : Ending) (w' : World) : Prop :=
  ∃ l1 g1 l2 g2 : Int, e = .returned (.tuple #[.agg #[.int .i64 l1, .int .i64 g1], .agg #[.int .i64 l2, .int .i64 g2]]) ∧ (inB a l1 g1 = aIn k a) ∧ (aIn k a = true → inB b l2 g2 = bIn k a b) ∧ Below w.heap.size w w'

set_option maxHeartbeats 2000000 in
theorem spans_one (a b : Int) (w : World) :
    Calls Tryd.prog 141 #[.agg #[.int .i64 1, .int .i64 a, .int .i64 b]] w (RetSp 1 a b w) := by
  have HB := Lib.hid (Below.refl w.heap.size w)
  have H1 : Hid (inB a 0 20 = aIn 1 a) := Lib.hid (by simp [aIn])
  have H2 : Hid (aIn 1 a = true → inB b (-1000000000000) 1000000000000 = bIn 1 a b) := Lib.hid (fun _ => by first | (simp [bIn]; done) | (simp [bIn, inB, numB]; done))
  go_enter Tryd.func141, Tryd.ntmps141
  go_wp2
  exact bodyPost_ret (v := .tuple #[.agg #[.int .i64 0, .int .i64 20], .agg #[.int .i64 (-1000000000000), .int .i64 1000000000000]]) (by simp [results, Tryd.results141, go_sem]) rfl ⟨_, _, _, _, rfl, H1.out, H2.out, by first | exact (((HB.out.alloc (Nat.le_refl _) _).alloc (by simp) _).alloc (by simp; omega) _).alloc (by simp; omega) _ | exact ((((HB.out.alloc (Nat.le_refl _) _).alloc (by simp) _).alloc (by simp; omega) _).alloc (by simp; omega) _).drew⟩

set_option maxHeartbeats 2000000 in
theorem spans_three (a b : Int) (w : World) :
    Calls Tryd.prog 141 #[.agg #[.int .i64 3, .int .i64 a, .int .i64 b]] w (RetSp 3 a b w) := by
  have HB := Lib.hid (Below.refl w.heap.size w)
  have H1 : Hid (inB a 0 20 = aIn 3 a) := Lib.hid (by simp [aIn])
  have H2 : Hid (aIn 3 a = true → inB b (-1000000000000) 1000000000000 = bIn 3 a b) := Lib.hid (fun _ => by first | (simp [bIn]; done) | (simp [bIn, inB, numB]; done))
  go_enter Tryd.func141, Tryd.ntmps141
  go_wp2
  exact bodyPost_ret (v := .tuple #[.agg #[.int .i64 0, .int .i64 20], .agg #[.int .i64 (-1000000000000), .int .i64 1000000000000]]) (by simp [results, Tryd.results141, go_sem]) rfl ⟨_, _, _, _, rfl, H1.out, H2.out, by first | exact (((HB.out.alloc (Nat.le_refl _) _).alloc (by simp) _).alloc (by simp; omega) _).alloc (by simp; omega) _ | exact ((((HB.out.alloc (Nat.le_refl _) _).alloc (by simp) _).alloc (by simp; omega) _).alloc (by simp; omega) _).drew⟩

set_option maxHeartbeats 2000000 in
theorem spans_four (a b : Int) (w : World) :
    Calls Tryd.prog 141 #[.agg #[.int .i64 4, .int .i64 a, .int .i64 b]] w (RetSp 4 a b w) := by
  have HB := Lib.hid (Below.refl w.heap.size w)
  have H1 : Hid (inB a 0 20 = aIn 4 a) := Lib.hid (by simp [aIn])
  have H2 : Hid (aIn 4 a = true → inB b 0 9 = bIn 4 a b) := Lib.hid (fun _ => by first | (simp [bIn]; done) | (simp [bIn, inB, numB]; done))
  go_enter Tryd.func141, Tryd.ntmps141
  go_wp2
  exact bodyPost_ret (v := .tuple #[.agg #[.int .i64 0, .int .i64 20], .agg #[.int .i64 0, .int .i64 9]]) (by simp [results, Tryd.results141, go_sem]) rfl ⟨_, _, _, _, rfl, H1.out, H2.out, by first | exact (((HB.out.alloc (Nat.le_refl _) _).alloc (by simp) _).alloc (by simp; omega) _).alloc (by simp; omega) _ | exact ((((HB.out.alloc (Nat.le_refl _) _).alloc (by simp) _).alloc (by simp; omega) _).alloc (by simp; omega) _).drew⟩

set_option maxHeartbeats 2000000 in
theorem spans_two (a b : Int) (w : World) :
    Calls Tryd.prog 141 #[.agg #[.int .i64 2, .int .i64 a, .int .i64 b]] w (RetSp 2 a b w) := by
  have HB := Lib.hid (Below.refl w.heap.size w)
  have H1 : Hid (inB a 0 20 = aIn 2 a) := Lib.hid (by simp [aIn])
  have H2 : Hid (aIn 2 a = true → inB b 0 20 = bIn 2 a b) := Lib.hid (fun _ => by first | (simp [bIn]; done) | (simp [bIn, inB, numB]; done))
  go_enter Tryd.func141, Tryd.ntmps141
  go_wp2
  go_region
  all_goals go_wp2
  all_goals exact bodyPost_ret (v := .tuple #[.agg #[.int .i64 0, .int .i64 20], .agg #[.int .i64 0, .int .i64 20]]) (by simp [results, Tryd.results141, go_sem]) rfl ⟨_, _, _, _, rfl, H1.out, H2.out, by first | exact (((HB.out.alloc (Nat.le_refl _) _).alloc (by simp) _).alloc (by simp; omega) _).alloc (by simp; omega) _ | exact ((((HB.out.alloc (Nat.le_refl _) _).alloc (by simp) _).alloc (by simp; omega) _).alloc (by simp; omega) _).drew⟩

set_option maxHeartbeats 2000000 in
theorem spans_zero (a b : Int) (w : World) :
    Calls Tryd.prog 141 #[.agg #[.int .i64 0, .int .i64 a, .int .i64 b]] w (RetSp 0 a b w) := by
  have HB := Lib.hid (Below.refl w.heap.size w)
  have H1 : Hid (inB a 2 12 = aIn 0 a) := Lib.hid (by simp [aIn])
  have H2 : Hid (aIn 0 a = true → inB b 0 (a - 1) = bIn 0 a b) := Lib.hid (fun _ => by simp [bIn])
  by_cases ha : 2 ≤ a ∧ a ≤ 12
  · obtain ⟨a1, a2⟩ := ha
    go_enter Tryd.func141, Tryd.ntmps141
    go_wp2
    go_region
    all_goals go_wp2
    all_goals exact bodyPost_ret (v := .tuple #[.agg #[.int .i64 2, .int .i64 12], .agg #[.int .i64 0, .int .i64 (a - 1)]]) (by simp [results, Tryd.results141, go_sem]) rfl ⟨_, _, _, _, rfl, H1.out, H2.out, by first | exact (((HB.out.alloc (Nat.le_refl _) _).alloc (by simp) _).alloc (by simp; omega) _).alloc (by simp; omega) _ | exact ((((HB.out.alloc (Nat.le_refl _) _).alloc (by simp) _).alloc (by simp; omega) _).alloc (by simp; omega) _).drew⟩
  · have H3 : Hid (aIn 0 a = false) := Lib.hid (by simp [aIn, inB]; omega)
    obtain ⟨x, hx⟩ : ∃ x, x = IntKind.i64.wrap (a - 1) := ⟨_, rfl⟩
    replace hx := hx.symm
    clear ha
    go_enter Tryd.func141, Tryd.ntmps141
    go_wp2
    go_region
    all_goals go_wp2
    all_goals exact bodyPost_ret (v := .tuple #[.agg #[.int .i64 2, .int .i64 12], .agg #[.int .i64 0, .int .i64 x]]) (by simp [results, Tryd.results141, go_sem]) rfl ⟨_, _, _, _, rfl, H1.out, (fun h => by rw [H3.out] at h; cases h), by first | exact (((HB.out.alloc (Nat.le_refl _) _).alloc (by simp) _).alloc (by simp; omega) _).alloc (by simp; omega) _ | exact ((((HB.out.alloc (Nat.le_refl _) _).alloc (by simp) _).alloc (by simp; omega) _).alloc (by simp; omega) _).drew⟩

set_option maxHeartbeats 2000000 in
theorem spans_none (k a b : Int) (w : World) (h0 : k ≠ 0) (h1 : k ≠ 1) (h2 : k ≠ 2) (h3 : k ≠ 3) (h4 : k ≠ 4) :
    Calls Tryd.prog 141 #[.agg #[.int .i64 k, .int .i64 a, .int .i64 b]] w fun e w' => e = .panicked [{ v := .iface 93 (.agg #[.int .i64 k, .int .i64 a, .int .i64 b]), recovered := false }] ∧ Below w.heap.size w w' := by
  have e0 : (k == 0) = false := by simpa using h0
  have e1 : (k == 1) = false := by simpa using h1
  have e2 : (k == 2) = false := by simpa using h2
  have e3 : (k == 3) = false := by simpa using h3
  have e4 : (k == 4) = false := by simpa using h4
  have HB := Lib.hid (Below.refl w.heap.size w)
  go_enter Tryd.func141, Tryd.ntmps141
  go_wp2
  exact ⟨rfl, rfl, (((HB.out.alloc (Nat.le_refl _) _).alloc (by simp) _).alloc (by simp; omega) _).alloc (by simp; omega) _⟩
theorem spans_any (k a b : Int) (w : World) (h0 : 0 ≤ k) (h4 : k ≤ 4) : Calls Tryd.prog 141 #[.agg #[.int .i64 k, .int .i64 a, .int .i64 b]] w (RetSp k a b w) := by
  have : k = 0 ∨ k = 1 ∨ k = 2 ∨ k = 3 ∨ k = 4 := by omega
  rcases this with rfl | rfl | rfl | rfl | rfl
  · exact spans_zero a b w
  · exact spans_one a b w
  · exact spans_two a b w
  · exact spans_three a b w
  · exact spans_four a b w

/-- A clue that is none is raised. -/
def raised (k a b : Int) : Ending := .panicked [{ v := .iface 93 (.agg #[.int .i64 k, .int .i64 a, .int .i64 b]), recovered := false }]
def RetDm (k a b : Int) (w : World) (e : Ending) (w' : World) : Prop := e = (if clB (k, a, b) = true then .returned (.tuple #[]) else raised k a b) ∧ Below w.heap.size w w'
theorem clB_two (k a b : Int) : clB (k, a, b) = (aIn k a && bIn k a b) := rfl

set_option maxHeartbeats 4000000 in
theorem demand_any (k a b : Int) (w : World) : Calls Tryd.prog 126 #[.agg #[.int .i64 k, .int .i64 a, .int .i64 b]] w (RetDm k a b w) := by
  unfold RetDm
  have HC := Lib.hid (clB_two k a b)
  have HB := Lib.hid (below_new w (.cells #[.int .i64 k, .int .i64 a, .int .i64 b] 93))
  by_cases hk : 0 ≤ k ∧ k ≤ 4
  · have HS := Lib.hid (fun W => spans_any k a b W hk.1 hk.2)
    clear hk
    cases hA : aIn k a
    · have HF : Hid (clB (k, a, b) = false) := Lib.hid (by rw [HC.out, hA]; rfl)
      rw [hA] at HC
      rw [HF.out]
      go_enter Tryd.func126, Tryd.ntmps126
      go_wp2_with fail
      refine (HS.out _).mono ?_
      rintro e w1 ⟨l1, g1, l2, g2, rfl, hi1, _, hb1⟩
      rw [hA] at hi1
      have c0 := (hb1.cell (p := ⟨w.heap.size, 0, none⟩) (by simp)).trans (show _ = some (Value.int .i64 k) by go_simp)
      have c1 := (hb1.cell (p := ⟨w.heap.size, 1, none⟩) (by simp)).trans (show _ = some (Value.int .i64 a) by go_simp)
      have c2 := (hb1.cell (p := ⟨w.heap.size, 2, none⟩) (by simp)).trans (show _ = some (Value.int .i64 b) by go_simp)
      have hlt : w.heap.size < w1.heap.size := by have := hb1.size; simp at this; omega
      have hn0 : ¬ (w.heap.size = w1.heap.size) := by omega
      have hm0 : ¬ (w1.heap.size = w.heap.size) := by omega
      have hl0 : w.heap.size < w1.heap.size := by omega
      have hn1 : ¬ (w.heap.size = w1.heap.size + 1) := by omega
      have hm1 : ¬ (w1.heap.size + 1 = w.heap.size) := by omega
      have hl1 : w.heap.size < w1.heap.size + 1 := by omega
      have hn2 : ¬ (w.heap.size = w1.heap.size + 1 + 1) := by omega
      have hm2 : ¬ (w1.heap.size + 1 + 1 = w.heap.size) := by omega
      have hl2 : w.heap.size < w1.heap.size + 1 + 1 := by omega
      have hn3 : ¬ (w.heap.size = w1.heap.size + 1 + 1 + 1) := by omega
      have hm3 : ¬ (w1.heap.size + 1 + 1 + 1 = w.heap.size) := by omega
      have hl3 : w.heap.size < w1.heap.size + 1 + 1 + 1 := by omega
      have HB1 := Lib.hid (HB.out.trans (hb1.mono HB.out.size))
      clear hb1
      go_wp2_with (go_at_call 142; refine (has_any _ _ _ _).mono ?_; rintro e w' ⟨rfl, rfl⟩)
      exact ⟨rfl, rfl, ((HB1.out.alloc (by omega) _).alloc (by simp; omega) _).alloc (by simp; omega) _⟩
    · cases hB : bIn k a b
      · have HF : Hid (clB (k, a, b) = false) := Lib.hid (by rw [HC.out, hA, hB]; rfl)
        rw [HF.out]
        go_enter Tryd.func126, Tryd.ntmps126
        go_wp2_with fail
        refine (HS.out _).mono ?_
        rintro e w1 ⟨l1, g1, l2, g2, rfl, hi1, hi2, hb1⟩
        replace hi2 := hi2 hA
        rw [hA] at hi1
        rw [hB] at hi2
        have c0 := (hb1.cell (p := ⟨w.heap.size, 0, none⟩) (by simp)).trans (show _ = some (Value.int .i64 k) by go_simp)
        have c1 := (hb1.cell (p := ⟨w.heap.size, 1, none⟩) (by simp)).trans (show _ = some (Value.int .i64 a) by go_simp)
        have c2 := (hb1.cell (p := ⟨w.heap.size, 2, none⟩) (by simp)).trans (show _ = some (Value.int .i64 b) by go_simp)
        have hlt : w.heap.size < w1.heap.size := by have := hb1.size; simp at this; omega
        have hn0 : ¬ (w.heap.size = w1.heap.size) := by omega
        have hm0 : ¬ (w1.heap.size = w.heap.size) := by omega
        have hl0 : w.heap.size < w1.heap.size := by omega
        have hn1 : ¬ (w.heap.size = w1.heap.size + 1) := by omega
        have hm1 : ¬ (w1.heap.size + 1 = w.heap.size) := by omega
        have hl1 : w.heap.size < w1.heap.size + 1 := by omega
        have hn2 : ¬ (w.heap.size = w1.heap.size + 1 + 1) := by omega
        have hm2 : ¬ (w1.heap.size + 1 + 1 = w.heap.size) := by omega
        have hl2 : w.heap.size < w1.heap.size + 1 + 1 := by omega
        have hn3 : ¬ (w.heap.size = w1.heap.size + 1 + 1 + 1) := by omega
        have hm3 : ¬ (w1.heap.size + 1 + 1 + 1 = w.heap.size) := by omega
        have hl3 : w.heap.size < w1.heap.size + 1 + 1 + 1 := by omega
        have HB1 := Lib.hid (HB.out.trans (hb1.mono HB.out.size))
        clear hb1 hA hB
        go_wp2_with (go_at_call 142; refine (has_any _ _ _ _).mono ?_; rintro e w' ⟨rfl, rfl⟩)
        exact ⟨rfl, rfl, (((HB1.out.alloc (by omega) _).alloc (by simp; omega) _).alloc (by simp; omega) _).alloc (by simp; omega) _⟩
      · have HF : Hid (clB (k, a, b) = true) := Lib.hid (by rw [HC.out, hA, hB]; rfl)
        rw [HF.out]
        go_enter Tryd.func126, Tryd.ntmps126
        go_wp2_with fail
        refine (HS.out _).mono ?_
        rintro e w1 ⟨l1, g1, l2, g2, rfl, hi1, hi2, hb1⟩
        replace hi2 := hi2 hA
        rw [hA] at hi1
        rw [hB] at hi2
        have c0 := (hb1.cell (p := ⟨w.heap.size, 0, none⟩) (by simp)).trans (show _ = some (Value.int .i64 k) by go_simp)
        have c1 := (hb1.cell (p := ⟨w.heap.size, 1, none⟩) (by simp)).trans (show _ = some (Value.int .i64 a) by go_simp)
        have c2 := (hb1.cell (p := ⟨w.heap.size, 2, none⟩) (by simp)).trans (show _ = some (Value.int .i64 b) by go_simp)
        have hlt : w.heap.size < w1.heap.size := by have := hb1.size; simp at this; omega
        have hn0 : ¬ (w.heap.size = w1.heap.size) := by omega
        have hm0 : ¬ (w1.heap.size = w.heap.size) := by omega
        have hl0 : w.heap.size < w1.heap.size := by omega
        have hn1 : ¬ (w.heap.size = w1.heap.size + 1) := by omega
        have hm1 : ¬ (w1.heap.size + 1 = w.heap.size) := by omega
        have hl1 : w.heap.size < w1.heap.size + 1 := by omega
        have hn2 : ¬ (w.heap.size = w1.heap.size + 1 + 1) := by omega
        have hm2 : ¬ (w1.heap.size + 1 + 1 = w.heap.size) := by omega
        have hl2 : w.heap.size < w1.heap.size + 1 + 1 := by omega
        have hn3 : ¬ (w.heap.size = w1.heap.size + 1 + 1 + 1) := by omega
        have hm3 : ¬ (w1.heap.size + 1 + 1 + 1 = w.heap.size) := by omega
        have hl3 : w.heap.size < w1.heap.size + 1 + 1 + 1 := by omega
        have HB1 := Lib.hid (HB.out.trans (hb1.mono HB.out.size))
        clear hb1 hA hB
        go_wp2_with (go_at_call 142; refine (has_any _ _ _ _).mono ?_; rintro e w' ⟨rfl, rfl⟩)
        go_end0
        exact ⟨rfl, (((HB1.out.alloc (by omega) _).alloc (by simp; omega) _).alloc (by simp; omega) _).alloc (by simp; omega) _⟩
  · have HF : Hid (clB (k, a, b) = false) := Lib.hid (by
      rw [Bool.eq_false_iff]; intro e; have := clB_kind e; exact hk this)
    have HS := Lib.hid (fun W => spans_none k a b W (by omega) (by omega) (by omega) (by omega) (by omega))
    rw [HF.out]
    clear hk
    go_enter Tryd.func126, Tryd.ntmps126
    go_wp2_with fail
    refine (HS.out _).mono ?_
    rintro e w1 ⟨rfl, hb1⟩
    have HB1 := Lib.hid (HB.out.trans (hb1.mono HB.out.size))
    clear hb1
    go_wp2_with fail
    exact ⟨rfl, rfl, HB1.out⟩

theorem caught_panicking (p : Addr) (x : Value) (pv : Value) (older : List PanicEntry) (w : World) (hc : w.cell? p = some x) (hz : w.frozen? p = false) :
    CallsD Tryd.prog 125 #[.pointer (some p)] (.panicking ({ v := .iface 93 pv, recovered := false } :: older)) w fun e u' w' =>
      e = .returned (.tuple #[]) ∧ u' = .panicking ({ v := .iface 93 pv, recovered := true } :: older) ∧ w' = w.setCell p (.bool true) := by
  refine callsD_of_wpS Tryd.func125 rfl fun c₀ cs hu => ?_
  have h1 : ∀ W, (Instr.typeAssert (.iface 93 pv) 20 93 true).run Tryd.prog W = .ok (.tuple #[pv, .bool true]) W := fun _ => by kernel_rfl
  apply wpS_region
  simp [wpOpsS, go_sem, recoverD, hu, Tryd.ntmps125, h1, hc, hz, bodyPostS, results, Tryd.results125]

theorem caught_idle (p : Addr) (x : Value) (w : World) (hc : w.cell? p = some x) (hz : w.frozen? p = false) :
    CallsD Tryd.prog 125 #[.pointer (some p)] .returning w fun e u' w' =>
      e = .returned (.tuple #[]) ∧ u' = .returning ∧ w' = w.setCell p (.bool false) := by
  refine callsD_of_wpS Tryd.func125 rfl fun c₀ cs hu => ?_
  have h1 : ∀ W, (Instr.typeAssert .nilIface 20 93 true).run Tryd.prog W = .ok (.tuple #[.agg #[.int .i64 0, .int .i64 0, .int .i64 0], .bool false]) W := fun _ => by kernel_rfl
  apply wpS_region
  simp [h1, wpOpsS, go_sem, recoverD, hu, Tryd.ntmps125, hc, hz, bodyPostS, results, Tryd.results125]
  cases c₀
  simp_all

set_option maxRecDepth 100000 in
set_option maxHeartbeats 4000000 in
theorem hasNone_any (cs : List Pt) (a : Option Addr) (cap : Nat) (w : World) (hl : cs.length ≤ 1048576) (hx : ClIn w a cs) :
    Calls Tryd.prog 98 #[.slice a cs.length cap] w fun e w' => e = .returned (.bool (!cs.all clB)) ∧ Below w.heap.size w w' := by
  have hmf : ∀ (fn : Fn) (first cap : Array Value) (w : World), (Instr.makeFunc fn first cap).run Tryd.prog w = .ok (.func fn first cap) w := fun _ _ _ _ => rfl
  obtain ⟨K, hK⟩ : ∃ K, cs.length = K := ⟨_, rfl⟩
  have HX : Hid (∀ j, j < K → ∃ b off, a = some ⟨b, off, none⟩ ∧ b < w.heap.size ∧ PtCell w b (off + j * 3) (cs.getD j pt0)) := Lib.hid (by rw [← hK]; exact hx)
  have HYES := Lib.hid (fun j hj => all_take_yes (f := clB) (ps := cs) (j := j) hj)
  have HNO := Lib.hid (fun j hj => all_take_no (f := clB) (ps := cs) (j := j) hj)
  have HF : Hid (cs.take K = cs) := Lib.hid (by rw [← hK]; exact List.take_length)
  rw [hK] at HYES HNO hl ⊢
  have hK2 : (K : Int) ≤ 1048576 := by omega
  have HB0 := Lib.hid (below_new w (.cells #[.bool false] 4))
  have H0 : Hid ((w.alloc (.cells #[.bool false] 4)).cell? ⟨w.heap.size, 0, none⟩ = some (.bool false) ∧ (w.alloc (.cells #[.bool false] 4)).frozen? ⟨w.heap.size, 0, none⟩ = false ∧ w.heap.size < (w.alloc (.cells #[.bool false] 4)).heap.size) := Lib.hid ⟨by go_simp, by go_simp, by simp⟩
  clear hx hK hl
  go_enter_defers Tryd.func98, Tryd.ntmps98
  go_wp2_with fail
  go_loopw [4, 8] (fun _ i wr => ∃ j : Nat, j ≤ K ∧ i = .int .i64 j ∧ (cs.take j).all clB = true ∧ (wr.cell? ⟨w.heap.size, 0, none⟩ = some (.bool false) ∧ wr.frozen? ⟨w.heap.size, 0, none⟩ = false ∧ w.heap.size < wr.heap.size) ∧ Below w.heap.size w wr) (fun _ i _ => K - (RowKit.intOf i).toNat)
  case atStart => exact ⟨0, Nat.zero_le _, rfl, rfl, H0.out, HB0.out⟩
  case round =>
    clear H0 HB0
    obtain ⟨j, hj, rfl, hall, ⟨b0, b1, b2⟩, hbel⟩ := hrel
    have HALL := Lib.hid hall
    have HBL := Lib.hid hbel
    clear hall
    by_cases hlt : j < K
    · obtain ⟨g, off, rfl, hgs, q⟩ := HX.out j hlt
      have q2 := q.of (hbel.block g hgs)
      have HS := Lib.hid (HYES.out j hlt HALL.out)
      have HN := Lib.hid (HNO.out j hlt)
      clear q hbel
      obtain ⟨pt, hpt⟩ : ∃ pt, cs.getD j pt0 = pt := ⟨_, rfl⟩
      rw [hpt] at q2 HS HN
      obtain ⟨k, x, y⟩ := pt
      obtain ⟨k0, k1, k2⟩ := q2
      dsimp only at k0 k1 k2
      have hlt2 : (j : Int) < (K : Int) := by omega
      have HC := Lib.hid (fun w => demand_any k x y w)
      have HBX : Hid (∀ w4, Below (wr.alloc (.cells #[.int .i64 k, .int .i64 x, .int .i64 y] 93)).heap.size (wr.alloc (.cells #[.int .i64 k, .int .i64 x, .int .i64 y] 93)) w4 → (w4.cell? ⟨w.heap.size, 0, none⟩ = some (.bool false) ∧ w4.frozen? ⟨w.heap.size, 0, none⟩ = false ∧ w.heap.size < w4.heap.size) ∧ Below w.heap.size w w4) := Lib.hid (fun w4 hb4 => by
        have hb := (below_new wr (.cells #[.int .i64 k, .int .i64 x, .int .i64 y] 93)).trans (hb4.mono (by simp))
        exact ⟨⟨(hb.cell (p := ⟨w.heap.size, 0, none⟩) b2).trans b0, (hb.frozen (p := ⟨w.heap.size, 0, none⟩) b2).trans b1, Nat.lt_of_lt_of_le b2 hb.size⟩, HBL.out.trans (hb.mono HBL.out.size)⟩)
      clear hpt
      cases hbv : clB (k, x, y) with
      | true =>
        unfold RetDm at HC
        rw [hbv] at HC
        clear HN
        go_wp2_with fail
        refine (HC.out _).mono ?_
        rintro e w4 ⟨rfl, hb4⟩
        obtain ⟨n1, n2⟩ := HBX.out _ hb4
        have N1 := Lib.hid n1
        have N2 := Lib.hid n2
        clear hb4 n1 n2 b0 b1 b2 HBX
        simp only [if_true]
        go_wp2_with fail
        exact ⟨⟨j + 1, hlt, by go_num, HS.out hbv, N1.out, N2.out⟩, by simp [RowKit.intOf]; omega⟩
      | false =>
        unfold RetDm raised at HC
        rw [hbv] at HC
        clear HS
        go_wp2_with fail
        refine (HC.out _).mono ?_
        rintro e w4 ⟨rfl, hb4⟩
        obtain ⟨⟨n1, n2, n3⟩, n4⟩ := HBX.out _ hb4
        have N4 := Lib.hid n4
        have HR : Hid ((!cs.all clB) = true) := Lib.hid (by rw [HN.out hbv]; rfl)
        clear hb4 n4 b0 b1 b2 HBX
        simp only [Bool.false_eq_true, if_false]
        go_wp2_with fail
        refine leaves_cons (f := 125) (args := #[.pointer (some ⟨w.heap.size, 0, none⟩)]) (by simp) (by simp [go_sem]) ?_
        refine (caught_panicking ⟨w.heap.size, 0, none⟩ _ _ [] _ n1 n2).mono ?_
        rintro e u' w'' ⟨rfl, rfl, rfl⟩
        rw [HR.out]
        have hc5 : (w4.setCell ⟨w.heap.size, 0, none⟩ (.bool true)).cell? ⟨w.heap.size, 0, none⟩ = some (.bool true) := World.cell?_setCell_same' _ _ _ (by rw [n1]; rfl)
        simp [Leaves, settle, results, Tryd.results98, go_sem, hc5]
        exact N4.out.setCell (by simp) _
    · obtain rfl : j = K := by omega
      have hlt2 : ¬ ((j : Int) < (j : Int)) := by omega
      have HR : Hid ((!cs.all clB) = false) := Lib.hid (by have h := HALL.out; rw [HF.out] at h; rw [h]; rfl)
      clear hbel
      go_wp2_with fail
      refine leaves_cons (f := 125) (args := #[.pointer (some ⟨w.heap.size, 0, none⟩)]) (by simp) (by simp [go_sem]) ?_
      have c5 : (wr.setCell ⟨w.heap.size, 0, none⟩ (.bool false)).cell? ⟨w.heap.size, 0, none⟩ = some (.bool false) := World.cell?_setCell_same' _ _ _ (by rw [b0]; rfl)
      have f5 : (wr.setCell ⟨w.heap.size, 0, none⟩ (.bool false)).frozen? ⟨w.heap.size, 0, none⟩ = false := by rw [World.frozen?_setCell]; exact b1
      refine (caught_idle ⟨w.heap.size, 0, none⟩ _ _ c5 f5).mono ?_
      rintro e u' w'' ⟨rfl, rfl, rfl⟩
      rw [HR.out]
      have hc6 : ((wr.setCell ⟨w.heap.size, 0, none⟩ (.bool false)).setCell ⟨w.heap.size, 0, none⟩ (.bool false)).cell? ⟨w.heap.size, 0, none⟩ = some (.bool false) := World.cell?_setCell_same' _ _ _ (by rw [c5]; rfl)
      simp [Leaves, settle, results, Tryd.results98, go_sem, hc6]
      exact (HBL.out.setCell (by simp) _).setCell (by simp) _
end Go.Proofs.YtgobjobppajkbaaDoor
