/-
  'AddMachine', 'LesserMachine' OF BOTH.
-/
import Derived.Test.YthafciggchdmpaaPrm
import Derived.Test.YthafciggchdmpaaMachL
namespace Go.Proofs.Ythafciggchdmpaa
open Go.RowKit
set_option linter.unusedVariables false

/-- What a function that makes a machine and a flag hands back. -/
def RetMac (ns ds : List Int) (ok : Bool) (w : World) (e : Ending) (w' : World) : Prop := ∃ v, e = .returned (.tuple #[v, .bool ok]) ∧ MacAt w' w.heap.size w'.heap.size v ns ds ∧ Below w.heap.size w w'
theorem row1_new {w : World} {M : Nat} (hM : w.heap.size = M) (x : Int) (T : TypeId) : IntRow (w.alloc (.cells #[.int .i64 x] T)) M [x] := by
  subst hM
  intro j hj
  match j, hj with
  | 0, _ => exact ⟨by go_simp, by go_simp⟩
theorem row3_new {w : World} {M : Nat} (hM : w.heap.size = M) (x y z : Int) (T : TypeId) : IntRow (w.alloc (.cells #[.int .i64 x, .int .i64 y, .int .i64 z] T)) M [x, y, z] := by
  subst hM
  intro j hj
  match j, hj with
  | 0, _ => exact ⟨by go_simp, by go_simp⟩
  | 1, _ => exact ⟨by go_simp, by go_simp⟩
  | 2, _ => exact ⟨by go_simp, by go_simp⟩
theorem macAt_nil (w : World) (lo hi : Nat) (h : hi ≤ w.heap.size) : MacAt w lo hi (.agg #[.slice none 0 0, .slice none 0 0]) [] [] :=
  ⟨h, none, 0, none, 0, rfl, fun h => (h rfl).elim, fun h => (h rfl).elim, fun h => (h rfl).elim⟩
theorem macAt_new {W w' : World} {lo M : Nat} {ns ds : List Int} {o o' : Obj} (hM : W.heap.size = M) (hlo : lo ≤ M) (hs : w'.heap.size = M + 2) (h1 : IntRow (W.alloc o) M ns) (h2 : IntRow ((W.alloc o).alloc o') (M + 1) ds)
    (he : ∀ g, M ≤ g → w'.heap[g]? = ((W.alloc o).alloc o').heap[g]?) : MacAt w' lo w'.heap.size (.agg #[.slice (some ⟨M, 0, none⟩) ns.length ns.length, .slice (some ⟨M + 1, 0, none⟩) ds.length ds.length]) ns ds := by
  subst hM
  refine ⟨Nat.le_refl _, _, _, _, _, rfl, fun _ => ⟨_, rfl, hlo, by omega, ?_⟩, fun _ => ⟨_, rfl, by omega, by omega, ?_⟩, fun _ _ e => by injection e with e; injection e with e; omega⟩
  · refine h1.of ((he _ (Nat.le_refl _)).trans ?_)
    exact ((Below.refl (W.heap.size + 1) _).alloc (by simp) _).block _ (by omega)
  · exact h2.of (he _ (by omega))
/-- What AddMachine, LesserMachine tell. -/
def addB (p q : Int) : Bool := prU 50 p && (prU 50 q && !decide (p = q))
def addN (p q : Int) : List Int := if addB p q = true then [q] else []
def addD (p q : Int) : List Int := if addB p q = true then [p] else []
def lesB (p q r : Int) : Bool := prU 50 p && (prU 50 q && (prU 50 r && (!decide (p = q) && (!decide (p = r) && !decide (q = r)))))
def lesN (p q r : Int) : List Int := if lesB p q r = true then [r, 1, 1] else []
def lesD (p q r : Int) : List Int := if lesB p q r = true then [p * q, p, q] else []

set_option maxHeartbeats 2000000 in
theorem sAddMachine (p q : Int) (w : World) : Calls Try.prog 17 #[.int .i64 p, .int .i64 q] w (RetMac (addN p q) (addD p q) (addB p q) w) := by
  have HCp := Lib.hid (fun w => maPrime_any p 50 w (by omega))
  have HCq := Lib.hid (fun w => maPrime_any q 50 w (by omega))
  have HIp := Lib.hid (fun h => prU_iff (m := 50) (p := p) h)
  have HIq := Lib.hid (fun h => prU_iff (m := 50) (p := q) h)
  obtain ⟨bp, hbp⟩ : ∃ b, prU 50 p = b := ⟨_, rfl⟩
  rw [hbp] at HCp HIp
  have HBp := Lib.hid hbp
  clear hbp
  obtain ⟨bq, hbq⟩ : ∃ b, prU 50 q = b := ⟨_, rfl⟩
  rw [hbq] at HCq HIq
  have HBq := Lib.hid hbq
  clear hbq
  have HE : Hid (∀ b e w', addB p q = b → RetMac (if b = true then [q] else []) (if b = true then [p] else []) b w e w' → RetMac (addN p q) (addD p q) (addB p q) w e w') := Lib.hid (fun b e w' hb h => by rw [addN, addD, hb]; exact h)
  have HB : Hid (∀ X, Below w.heap.size w (w.alloc X)) := Lib.hid (fun X => (Below.refl w.heap.size w).alloc (Nat.le_refl _) X)
  have k0 : (w.alloc (.cells #[.slice none 0 0, .slice none 0 0] 34)).cell? ⟨w.heap.size, 0, none⟩ = some (.slice none 0 0) := by go_simp
  have k1 : (w.alloc (.cells #[.slice none 0 0, .slice none 0 0] 34)).cell? ⟨w.heap.size, 1, none⟩ = some (.slice none 0 0) := by go_simp
  have k2 : (w.alloc (.cells #[.slice none 0 0, .slice none 0 0] 34)).frozen? ⟨w.heap.size, 0, none⟩ = false := by go_simp
  have k3 : (w.alloc (.cells #[.slice none 0 0, .slice none 0 0] 34)).frozen? ⟨w.heap.size, 1, none⟩ = false := by go_simp
  have HK := Lib.hid (And.intro (And.intro k0 k1) (And.intro k2 k3))
  clear k0 k1 k2 k3
  go_enter Try.func17, Try.ntmps17
  go_wp2_with fail
  refine (HCp.out _).mono ?_
  rintro e w1 ⟨rfl, hw1⟩
  have hz1 : w.heap.size < w1.heap.size := by have := hw1.size; simp at this; omega
  have c0 : w1.cell? ⟨w.heap.size, 0, none⟩ = some (.slice none 0 0) := (hw1.cell (p := ⟨w.heap.size, 0, none⟩) (by simp)).trans HK.out.1.1
  have c1 : w1.cell? ⟨w.heap.size, 1, none⟩ = some (.slice none 0 0) := (hw1.cell (p := ⟨w.heap.size, 1, none⟩) (by simp)).trans HK.out.1.2
  have f0 : w1.frozen? ⟨w.heap.size, 0, none⟩ = false := (hw1.frozen (p := ⟨w.heap.size, 0, none⟩) (by simp)).trans HK.out.2.1
  have f1 : w1.frozen? ⟨w.heap.size, 1, none⟩ = false := (hw1.frozen (p := ⟨w.heap.size, 1, none⟩) (by simp)).trans HK.out.2.2
  have HB1 := Lib.hid ((HB.out _).trans (hw1.mono (by simp)))
  clear hw1
  cases bp
  case false =>
    go_wp2_with fail
    refine bodyPost_ret (v := .tuple #[.agg #[.slice none 0 0, .slice none 0 0], .bool false]) (by simp [results, Try.f17, go_sem, c0, c1]) rfl (HE.out false _ _ (by simp [addB, HBp.out]) ⟨_, rfl, macAt_nil _ _ _ (Nat.le_refl _), ?_⟩)
    exact (HB1.out.setCell (by simp) _).setCell (by simp) _
  case true =>
    obtain ⟨lp, up⟩ := HIp.out (by simp)
    go_wp2_with fail
    refine (HCq.out _).mono ?_
    rintro e w2 ⟨rfl, hw2⟩
    have hz2 : w.heap.size < w2.heap.size := Nat.lt_of_lt_of_le hz1 hw2.size
    have c0 := kept_cell hw2 hz1 c0
    have c1 := kept_cell hw2 hz1 c1
    have f0 := kept_free hw2 hz1 f0
    have f1 := kept_free hw2 hz1 f1
    have HB2 := Lib.hid (HB1.out.trans (hw2.mono (Nat.le_of_lt hz1)))
    clear hw2
    cases bq
    case false =>
      go_wp2_with fail
      refine bodyPost_ret (v := .tuple #[.agg #[.slice none 0 0, .slice none 0 0], .bool false]) (by simp [results, Try.f17, go_sem, c0, c1]) rfl (HE.out false _ _ (by simp [addB, HBp.out, HBq.out]) ⟨_, rfl, macAt_nil _ _ _ (Nat.le_refl _), ?_⟩)
      exact (HB2.out.setCell (by simp) _).setCell (by simp) _
    case true =>
      obtain ⟨lq, uq⟩ := HIq.out (by simp)
      by_cases epq : p = q
      case pos =>
        subst epq
        go_wp2_with fail
        refine bodyPost_ret (v := .tuple #[.agg #[.slice none 0 0, .slice none 0 0], .bool false]) (by simp [results, Try.f17, go_sem, c0, c1]) rfl (HE.out false _ _ (by simp [addB, HBp.out]) ⟨_, rfl, macAt_nil _ _ _ (Nat.le_refl _), ?_⟩)
        exact (HB2.out.setCell (by simp) _).setCell (by simp) _
      case neg =>
        have n1 : decide (p = q) = false := by simpa using epq
        have hn1 : ¬ w2.heap.size = w.heap.size := by omega
        have hn2 : ¬ w.heap.size = w2.heap.size := by omega
        have hn3 : ¬ w2.heap.size + 1 = w.heap.size := by omega
        have hn4 : ¬ w.heap.size = w2.heap.size + 1 := by omega
        have hn5 : w.heap.size < w2.heap.size + 1 := by omega
        have hn6 : w.heap.size < w2.heap.size := by omega
        go_wp2_with fail
        refine bodyPost_ret (v := .tuple #[.agg #[.slice (some ⟨w2.heap.size, 0, none⟩) 1 1, .slice (some ⟨w2.heap.size + 1, 0, none⟩) 1 1], .bool true]) (by simp [results, Try.f17, go_sem, c0, c1, hn5, hn6]) rfl (HE.out true _ _ (by simp [addB, HBp.out, HBq.out, n1]) ⟨_, rfl, ?_, ?_⟩)
        · exact macAt_new (M := w2.heap.size) (by simp) HB2.out.size (by simp) (row1_new (by simp) _ _) (row1_new (by simp) _ _) (fun _ _ => rfl)
        · exact (((HB2.out.setCell (by simp) _).setCell (by simp) _).alloc (by have := HB2.out.size; simp; omega) _).alloc (by have := HB2.out.size; simp; omega) _

set_option maxHeartbeats 2000000 in
theorem iAddMachine (p q : Int) (w : World) : Calls Try.prog 18 #[.int .i64 p, .int .i64 q] w (RetMac (addN p q) (addD p q) (addB p q) w) := by
  have HCp := Lib.hid (fun w => isSmallPrime_any p w)
  have HCq := Lib.hid (fun w => isSmallPrime_any q w)
  have HIp := Lib.hid (fun h => prU_iff (m := 50) (p := p) h)
  have HIq := Lib.hid (fun h => prU_iff (m := 50) (p := q) h)
  obtain ⟨bp, hbp⟩ : ∃ b, prU 50 p = b := ⟨_, rfl⟩
  rw [hbp] at HCp HIp
  have HBp := Lib.hid hbp
  clear hbp
  obtain ⟨bq, hbq⟩ : ∃ b, prU 50 q = b := ⟨_, rfl⟩
  rw [hbq] at HCq HIq
  have HBq := Lib.hid hbq
  clear hbq
  have HE : Hid (∀ b e w', addB p q = b → RetMac (if b = true then [q] else []) (if b = true then [p] else []) b w e w' → RetMac (addN p q) (addD p q) (addB p q) w e w') := Lib.hid (fun b e w' hb h => by rw [addN, addD, hb]; exact h)
  have HB : Hid (∀ X, Below w.heap.size w (w.alloc X)) := Lib.hid (fun X => (Below.refl w.heap.size w).alloc (Nat.le_refl _) X)
  have k0 : (w.alloc (.cells #[.slice none 0 0, .slice none 0 0] 34)).cell? ⟨w.heap.size, 0, none⟩ = some (.slice none 0 0) := by go_simp
  have k1 : (w.alloc (.cells #[.slice none 0 0, .slice none 0 0] 34)).cell? ⟨w.heap.size, 1, none⟩ = some (.slice none 0 0) := by go_simp
  have k2 : (w.alloc (.cells #[.slice none 0 0, .slice none 0 0] 34)).frozen? ⟨w.heap.size, 0, none⟩ = false := by go_simp
  have k3 : (w.alloc (.cells #[.slice none 0 0, .slice none 0 0] 34)).frozen? ⟨w.heap.size, 1, none⟩ = false := by go_simp
  have HK := Lib.hid (And.intro (And.intro k0 k1) (And.intro k2 k3))
  clear k0 k1 k2 k3
  go_enter Try.func18, Try.ntmps18
  go_wp2_with fail
  refine (HCp.out _).mono ?_
  rintro e w1 ⟨rfl, hw1⟩
  have hz1 : w.heap.size < w1.heap.size := by have := hw1.size; simp at this; omega
  have c0 : w1.cell? ⟨w.heap.size, 0, none⟩ = some (.slice none 0 0) := (hw1.cell (p := ⟨w.heap.size, 0, none⟩) (by simp)).trans HK.out.1.1
  have c1 : w1.cell? ⟨w.heap.size, 1, none⟩ = some (.slice none 0 0) := (hw1.cell (p := ⟨w.heap.size, 1, none⟩) (by simp)).trans HK.out.1.2
  have f0 : w1.frozen? ⟨w.heap.size, 0, none⟩ = false := (hw1.frozen (p := ⟨w.heap.size, 0, none⟩) (by simp)).trans HK.out.2.1
  have f1 : w1.frozen? ⟨w.heap.size, 1, none⟩ = false := (hw1.frozen (p := ⟨w.heap.size, 1, none⟩) (by simp)).trans HK.out.2.2
  have HB1 := Lib.hid ((HB.out _).trans (hw1.mono (by simp)))
  clear hw1
  cases bp
  case false =>
    go_wp2_with fail
    refine bodyPost_ret (v := .tuple #[.agg #[.slice none 0 0, .slice none 0 0], .bool false]) (by simp [results, Try.f18, go_sem, c0, c1]) rfl (HE.out false _ _ (by simp [addB, HBp.out]) ⟨_, rfl, macAt_nil _ _ _ (Nat.le_refl _), ?_⟩)
    exact (HB1.out.setCell (by simp) _).setCell (by simp) _
  case true =>
    obtain ⟨lp, up⟩ := HIp.out (by simp)
    go_wp2_with fail
    refine (HCq.out _).mono ?_
    rintro e w2 ⟨rfl, hw2⟩
    have hz2 : w.heap.size < w2.heap.size := Nat.lt_of_lt_of_le hz1 hw2.size
    have c0 := kept_cell hw2 hz1 c0
    have c1 := kept_cell hw2 hz1 c1
    have f0 := kept_free hw2 hz1 f0
    have f1 := kept_free hw2 hz1 f1
    have HB2 := Lib.hid (HB1.out.trans (hw2.mono (Nat.le_of_lt hz1)))
    clear hw2
    cases bq
    case false =>
      go_wp2_with fail
      refine bodyPost_ret (v := .tuple #[.agg #[.slice none 0 0, .slice none 0 0], .bool false]) (by simp [results, Try.f18, go_sem, c0, c1]) rfl (HE.out false _ _ (by simp [addB, HBp.out, HBq.out]) ⟨_, rfl, macAt_nil _ _ _ (Nat.le_refl _), ?_⟩)
      exact (HB2.out.setCell (by simp) _).setCell (by simp) _
    case true =>
      obtain ⟨lq, uq⟩ := HIq.out (by simp)
      by_cases epq : p = q
      case pos =>
        subst epq
        go_wp2_with fail
        refine bodyPost_ret (v := .tuple #[.agg #[.slice none 0 0, .slice none 0 0], .bool false]) (by simp [results, Try.f18, go_sem, c0, c1]) rfl (HE.out false _ _ (by simp [addB, HBp.out]) ⟨_, rfl, macAt_nil _ _ _ (Nat.le_refl _), ?_⟩)
        exact (HB2.out.setCell (by simp) _).setCell (by simp) _
      case neg =>
        have n1 : decide (p = q) = false := by simpa using epq
        have hn1 : ¬ w2.heap.size = w.heap.size := by omega
        have hn2 : ¬ w.heap.size = w2.heap.size := by omega
        have hn3 : ¬ w2.heap.size + 1 = w.heap.size := by omega
        have hn4 : ¬ w.heap.size = w2.heap.size + 1 := by omega
        have hn5 : w.heap.size < w2.heap.size + 1 := by omega
        have hn6 : w.heap.size < w2.heap.size := by omega
        go_wp2_with fail
        refine bodyPost_ret (v := .tuple #[.agg #[.slice (some ⟨w2.heap.size, 0, none⟩) 1 1, .slice (some ⟨w2.heap.size + 1, 0, none⟩) 1 1], .bool true]) (by simp [results, Try.f18, go_sem, c0, c1, hn5, hn6]) rfl (HE.out true _ _ (by simp [addB, HBp.out, HBq.out, n1]) ⟨_, rfl, ?_, ?_⟩)
        · exact macAt_new (M := w2.heap.size) (by simp) HB2.out.size (by simp) (row1_new (by simp) _ _) (row1_new (by simp) _ _) (fun _ _ => rfl)
        · exact (((HB2.out.setCell (by simp) _).setCell (by simp) _).alloc (by have := HB2.out.size; simp; omega) _).alloc (by have := HB2.out.size; simp; omega) _

set_option maxHeartbeats 2000000 in
theorem sLesserMachine (p q r : Int) (w : World) : Calls Try.prog 22 #[.int .i64 p, .int .i64 q, .int .i64 r] w (RetMac (lesN p q r) (lesD p q r) (lesB p q r) w) := by
  have HCp := Lib.hid (fun w => maPrime_any p 50 w (by omega))
  have HCq := Lib.hid (fun w => maPrime_any q 50 w (by omega))
  have HCr := Lib.hid (fun w => maPrime_any r 50 w (by omega))
  have HIp := Lib.hid (fun h => prU_iff (m := 50) (p := p) h)
  have HIq := Lib.hid (fun h => prU_iff (m := 50) (p := q) h)
  have HIr := Lib.hid (fun h => prU_iff (m := 50) (p := r) h)
  obtain ⟨bp, hbp⟩ : ∃ b, prU 50 p = b := ⟨_, rfl⟩
  rw [hbp] at HCp HIp
  have HBp := Lib.hid hbp
  clear hbp
  obtain ⟨bq, hbq⟩ : ∃ b, prU 50 q = b := ⟨_, rfl⟩
  rw [hbq] at HCq HIq
  have HBq := Lib.hid hbq
  clear hbq
  obtain ⟨br, hbr⟩ : ∃ b, prU 50 r = b := ⟨_, rfl⟩
  rw [hbr] at HCr HIr
  have HBr := Lib.hid hbr
  clear hbr
  have HE : Hid (∀ b e w', lesB p q r = b → RetMac (if b = true then [r, 1, 1] else []) (if b = true then [p * q, p, q] else []) b w e w' → RetMac (lesN p q r) (lesD p q r) (lesB p q r) w e w') := Lib.hid (fun b e w' hb h => by rw [lesN, lesD, hb]; exact h)
  have HB : Hid (∀ X, Below w.heap.size w (w.alloc X)) := Lib.hid (fun X => (Below.refl w.heap.size w).alloc (Nat.le_refl _) X)
  have k0 : (w.alloc (.cells #[.slice none 0 0, .slice none 0 0] 34)).cell? ⟨w.heap.size, 0, none⟩ = some (.slice none 0 0) := by go_simp
  have k1 : (w.alloc (.cells #[.slice none 0 0, .slice none 0 0] 34)).cell? ⟨w.heap.size, 1, none⟩ = some (.slice none 0 0) := by go_simp
  have k2 : (w.alloc (.cells #[.slice none 0 0, .slice none 0 0] 34)).frozen? ⟨w.heap.size, 0, none⟩ = false := by go_simp
  have k3 : (w.alloc (.cells #[.slice none 0 0, .slice none 0 0] 34)).frozen? ⟨w.heap.size, 1, none⟩ = false := by go_simp
  have HK := Lib.hid (And.intro (And.intro k0 k1) (And.intro k2 k3))
  clear k0 k1 k2 k3
  go_enter Try.func22, Try.ntmps22
  go_wp2_with fail
  refine (HCp.out _).mono ?_
  rintro e w1 ⟨rfl, hw1⟩
  have hz1 : w.heap.size < w1.heap.size := by have := hw1.size; simp at this; omega
  have c0 : w1.cell? ⟨w.heap.size, 0, none⟩ = some (.slice none 0 0) := (hw1.cell (p := ⟨w.heap.size, 0, none⟩) (by simp)).trans HK.out.1.1
  have c1 : w1.cell? ⟨w.heap.size, 1, none⟩ = some (.slice none 0 0) := (hw1.cell (p := ⟨w.heap.size, 1, none⟩) (by simp)).trans HK.out.1.2
  have f0 : w1.frozen? ⟨w.heap.size, 0, none⟩ = false := (hw1.frozen (p := ⟨w.heap.size, 0, none⟩) (by simp)).trans HK.out.2.1
  have f1 : w1.frozen? ⟨w.heap.size, 1, none⟩ = false := (hw1.frozen (p := ⟨w.heap.size, 1, none⟩) (by simp)).trans HK.out.2.2
  have HB1 := Lib.hid ((HB.out _).trans (hw1.mono (by simp)))
  clear hw1
  cases bp
  case false =>
    go_wp2_with fail
    refine bodyPost_ret (v := .tuple #[.agg #[.slice none 0 0, .slice none 0 0], .bool false]) (by simp [results, Try.f22, go_sem, c0, c1]) rfl (HE.out false _ _ (by simp [lesB, HBp.out]) ⟨_, rfl, macAt_nil _ _ _ (Nat.le_refl _), ?_⟩)
    exact (HB1.out.setCell (by simp) _).setCell (by simp) _
  case true =>
    obtain ⟨lp, up⟩ := HIp.out (by simp)
    go_wp2_with fail
    refine (HCq.out _).mono ?_
    rintro e w2 ⟨rfl, hw2⟩
    have hz2 : w.heap.size < w2.heap.size := Nat.lt_of_lt_of_le hz1 hw2.size
    have c0 := kept_cell hw2 hz1 c0
    have c1 := kept_cell hw2 hz1 c1
    have f0 := kept_free hw2 hz1 f0
    have f1 := kept_free hw2 hz1 f1
    have HB2 := Lib.hid (HB1.out.trans (hw2.mono (Nat.le_of_lt hz1)))
    clear hw2
    cases bq
    case false =>
      go_wp2_with fail
      refine bodyPost_ret (v := .tuple #[.agg #[.slice none 0 0, .slice none 0 0], .bool false]) (by simp [results, Try.f22, go_sem, c0, c1]) rfl (HE.out false _ _ (by simp [lesB, HBp.out, HBq.out]) ⟨_, rfl, macAt_nil _ _ _ (Nat.le_refl _), ?_⟩)
      exact (HB2.out.setCell (by simp) _).setCell (by simp) _
    case true =>
      obtain ⟨lq, uq⟩ := HIq.out (by simp)
      go_wp2_with fail
      refine (HCr.out _).mono ?_
      rintro e w3 ⟨rfl, hw3⟩
      have hz3 : w.heap.size < w3.heap.size := Nat.lt_of_lt_of_le hz2 hw3.size
      have c0 := kept_cell hw3 hz2 c0
      have c1 := kept_cell hw3 hz2 c1
      have f0 := kept_free hw3 hz2 f0
      have f1 := kept_free hw3 hz2 f1
      have HB3 := Lib.hid (HB2.out.trans (hw3.mono (Nat.le_of_lt hz2)))
      clear hw3
      cases br
      case false =>
        go_wp2_with fail
        refine bodyPost_ret (v := .tuple #[.agg #[.slice none 0 0, .slice none 0 0], .bool false]) (by simp [results, Try.f22, go_sem, c0, c1]) rfl (HE.out false _ _ (by simp [lesB, HBp.out, HBq.out, HBr.out]) ⟨_, rfl, macAt_nil _ _ _ (Nat.le_refl _), ?_⟩)
        exact (HB3.out.setCell (by simp) _).setCell (by simp) _
      case true =>
        obtain ⟨lr, ur⟩ := HIr.out (by simp)
        by_cases epq : p = q
        case pos =>
          subst epq
          go_wp2_with fail
          refine bodyPost_ret (v := .tuple #[.agg #[.slice none 0 0, .slice none 0 0], .bool false]) (by simp [results, Try.f22, go_sem, c0, c1]) rfl (HE.out false _ _ (by simp [lesB, HBp.out, HBr.out]) ⟨_, rfl, macAt_nil _ _ _ (Nat.le_refl _), ?_⟩)
          exact (HB3.out.setCell (by simp) _).setCell (by simp) _
        case neg =>
          by_cases epr : p = r
          case pos =>
            subst epr
            go_wp2_with fail
            refine bodyPost_ret (v := .tuple #[.agg #[.slice none 0 0, .slice none 0 0], .bool false]) (by simp [results, Try.f22, go_sem, c0, c1]) rfl (HE.out false _ _ (by simp [lesB, HBp.out, HBq.out]) ⟨_, rfl, macAt_nil _ _ _ (Nat.le_refl _), ?_⟩)
            exact (HB3.out.setCell (by simp) _).setCell (by simp) _
          case neg =>
            by_cases eqr : q = r
            case pos =>
              subst eqr
              go_wp2_with fail
              refine bodyPost_ret (v := .tuple #[.agg #[.slice none 0 0, .slice none 0 0], .bool false]) (by simp [results, Try.f22, go_sem, c0, c1]) rfl (HE.out false _ _ (by simp [lesB, HBp.out, HBq.out]) ⟨_, rfl, macAt_nil _ _ _ (Nat.le_refl _), ?_⟩)
              exact (HB3.out.setCell (by simp) _).setCell (by simp) _
            case neg =>
              have m0 : 0 ≤ p * q := Int.mul_nonneg (by omega) (by omega)
              have m1 : p * q ≤ 2500 := by
                have := Int.mul_le_mul up uq (by omega) (by omega)
                omega
              have n1 : decide (p = q) = false := by simpa using epq
              have n2 : decide (p = r) = false := by simpa using epr
              have n3 : decide (q = r) = false := by simpa using eqr
              have n4 : (p == q) = false := by simpa using epq
              have n5 : (p == r) = false := by simpa using epr
              have n6 : (q == r) = false := by simpa using eqr
              have hn1 : ¬ w3.heap.size = w.heap.size := by omega
              have hn2 : ¬ w.heap.size = w3.heap.size := by omega
              have hn3 : ¬ w3.heap.size + 1 = w.heap.size := by omega
              have hn4 : ¬ w.heap.size = w3.heap.size + 1 := by omega
              have hn5 : w.heap.size < w3.heap.size + 1 := by omega
              have hn6 : w.heap.size < w3.heap.size := by omega
              go_wp2_with fail
              refine bodyPost_ret (v := .tuple #[.agg #[.slice (some ⟨w3.heap.size, 0, none⟩) 3 3, .slice (some ⟨w3.heap.size + 1, 0, none⟩) 3 3], .bool true]) (by simp [results, Try.f22, go_sem, c0, c1, hn5, hn6]) rfl (HE.out true _ _ (by simp [lesB, HBp.out, HBq.out, HBr.out, n1, n2, n3]) ⟨_, rfl, ?_, ?_⟩)
              · exact macAt_new (M := w3.heap.size) (by simp) HB3.out.size (by simp) (row3_new (by simp) _ _ _ _) (row3_new (by simp) _ _ _ _) (fun _ _ => rfl)
              · exact (((HB3.out.setCell (by simp) _).setCell (by simp) _).alloc (by have := HB3.out.size; simp; omega) _).alloc (by have := HB3.out.size; simp; omega) _

set_option maxHeartbeats 2000000 in
theorem iLesserMachine (p q r : Int) (w : World) : Calls Try.prog 23 #[.int .i64 p, .int .i64 q, .int .i64 r] w (RetMac (lesN p q r) (lesD p q r) (lesB p q r) w) := by
  have HCp := Lib.hid (fun w => isSmallPrime_any p w)
  have HCq := Lib.hid (fun w => isSmallPrime_any q w)
  have HCr := Lib.hid (fun w => isSmallPrime_any r w)
  have HIp := Lib.hid (fun h => prU_iff (m := 50) (p := p) h)
  have HIq := Lib.hid (fun h => prU_iff (m := 50) (p := q) h)
  have HIr := Lib.hid (fun h => prU_iff (m := 50) (p := r) h)
  obtain ⟨bp, hbp⟩ : ∃ b, prU 50 p = b := ⟨_, rfl⟩
  rw [hbp] at HCp HIp
  have HBp := Lib.hid hbp
  clear hbp
  obtain ⟨bq, hbq⟩ : ∃ b, prU 50 q = b := ⟨_, rfl⟩
  rw [hbq] at HCq HIq
  have HBq := Lib.hid hbq
  clear hbq
  obtain ⟨br, hbr⟩ : ∃ b, prU 50 r = b := ⟨_, rfl⟩
  rw [hbr] at HCr HIr
  have HBr := Lib.hid hbr
  clear hbr
  have HE : Hid (∀ b e w', lesB p q r = b → RetMac (if b = true then [r, 1, 1] else []) (if b = true then [p * q, p, q] else []) b w e w' → RetMac (lesN p q r) (lesD p q r) (lesB p q r) w e w') := Lib.hid (fun b e w' hb h => by rw [lesN, lesD, hb]; exact h)
  have HB : Hid (∀ X, Below w.heap.size w (w.alloc X)) := Lib.hid (fun X => (Below.refl w.heap.size w).alloc (Nat.le_refl _) X)
  have k0 : (w.alloc (.cells #[.slice none 0 0, .slice none 0 0] 34)).cell? ⟨w.heap.size, 0, none⟩ = some (.slice none 0 0) := by go_simp
  have k1 : (w.alloc (.cells #[.slice none 0 0, .slice none 0 0] 34)).cell? ⟨w.heap.size, 1, none⟩ = some (.slice none 0 0) := by go_simp
  have k2 : (w.alloc (.cells #[.slice none 0 0, .slice none 0 0] 34)).frozen? ⟨w.heap.size, 0, none⟩ = false := by go_simp
  have k3 : (w.alloc (.cells #[.slice none 0 0, .slice none 0 0] 34)).frozen? ⟨w.heap.size, 1, none⟩ = false := by go_simp
  have HK := Lib.hid (And.intro (And.intro k0 k1) (And.intro k2 k3))
  clear k0 k1 k2 k3
  go_enter Try.func23, Try.ntmps23
  go_wp2_with fail
  refine (HCp.out _).mono ?_
  rintro e w1 ⟨rfl, hw1⟩
  have hz1 : w.heap.size < w1.heap.size := by have := hw1.size; simp at this; omega
  have c0 : w1.cell? ⟨w.heap.size, 0, none⟩ = some (.slice none 0 0) := (hw1.cell (p := ⟨w.heap.size, 0, none⟩) (by simp)).trans HK.out.1.1
  have c1 : w1.cell? ⟨w.heap.size, 1, none⟩ = some (.slice none 0 0) := (hw1.cell (p := ⟨w.heap.size, 1, none⟩) (by simp)).trans HK.out.1.2
  have f0 : w1.frozen? ⟨w.heap.size, 0, none⟩ = false := (hw1.frozen (p := ⟨w.heap.size, 0, none⟩) (by simp)).trans HK.out.2.1
  have f1 : w1.frozen? ⟨w.heap.size, 1, none⟩ = false := (hw1.frozen (p := ⟨w.heap.size, 1, none⟩) (by simp)).trans HK.out.2.2
  have HB1 := Lib.hid ((HB.out _).trans (hw1.mono (by simp)))
  clear hw1
  cases bp
  case false =>
    go_wp2_with fail
    refine bodyPost_ret (v := .tuple #[.agg #[.slice none 0 0, .slice none 0 0], .bool false]) (by simp [results, Try.f23, go_sem, c0, c1]) rfl (HE.out false _ _ (by simp [lesB, HBp.out]) ⟨_, rfl, macAt_nil _ _ _ (Nat.le_refl _), ?_⟩)
    exact (HB1.out.setCell (by simp) _).setCell (by simp) _
  case true =>
    obtain ⟨lp, up⟩ := HIp.out (by simp)
    go_wp2_with fail
    refine (HCq.out _).mono ?_
    rintro e w2 ⟨rfl, hw2⟩
    have hz2 : w.heap.size < w2.heap.size := Nat.lt_of_lt_of_le hz1 hw2.size
    have c0 := kept_cell hw2 hz1 c0
    have c1 := kept_cell hw2 hz1 c1
    have f0 := kept_free hw2 hz1 f0
    have f1 := kept_free hw2 hz1 f1
    have HB2 := Lib.hid (HB1.out.trans (hw2.mono (Nat.le_of_lt hz1)))
    clear hw2
    cases bq
    case false =>
      go_wp2_with fail
      refine bodyPost_ret (v := .tuple #[.agg #[.slice none 0 0, .slice none 0 0], .bool false]) (by simp [results, Try.f23, go_sem, c0, c1]) rfl (HE.out false _ _ (by simp [lesB, HBp.out, HBq.out]) ⟨_, rfl, macAt_nil _ _ _ (Nat.le_refl _), ?_⟩)
      exact (HB2.out.setCell (by simp) _).setCell (by simp) _
    case true =>
      obtain ⟨lq, uq⟩ := HIq.out (by simp)
      go_wp2_with fail
      refine (HCr.out _).mono ?_
      rintro e w3 ⟨rfl, hw3⟩
      have hz3 : w.heap.size < w3.heap.size := Nat.lt_of_lt_of_le hz2 hw3.size
      have c0 := kept_cell hw3 hz2 c0
      have c1 := kept_cell hw3 hz2 c1
      have f0 := kept_free hw3 hz2 f0
      have f1 := kept_free hw3 hz2 f1
      have HB3 := Lib.hid (HB2.out.trans (hw3.mono (Nat.le_of_lt hz2)))
      clear hw3
      cases br
      case false =>
        go_wp2_with fail
        refine bodyPost_ret (v := .tuple #[.agg #[.slice none 0 0, .slice none 0 0], .bool false]) (by simp [results, Try.f23, go_sem, c0, c1]) rfl (HE.out false _ _ (by simp [lesB, HBp.out, HBq.out, HBr.out]) ⟨_, rfl, macAt_nil _ _ _ (Nat.le_refl _), ?_⟩)
        exact (HB3.out.setCell (by simp) _).setCell (by simp) _
      case true =>
        obtain ⟨lr, ur⟩ := HIr.out (by simp)
        by_cases epq : p = q
        case pos =>
          subst epq
          go_wp2_with fail
          refine bodyPost_ret (v := .tuple #[.agg #[.slice none 0 0, .slice none 0 0], .bool false]) (by simp [results, Try.f23, go_sem, c0, c1]) rfl (HE.out false _ _ (by simp [lesB, HBp.out, HBr.out]) ⟨_, rfl, macAt_nil _ _ _ (Nat.le_refl _), ?_⟩)
          exact (HB3.out.setCell (by simp) _).setCell (by simp) _
        case neg =>
          by_cases epr : p = r
          case pos =>
            subst epr
            go_wp2_with fail
            refine bodyPost_ret (v := .tuple #[.agg #[.slice none 0 0, .slice none 0 0], .bool false]) (by simp [results, Try.f23, go_sem, c0, c1]) rfl (HE.out false _ _ (by simp [lesB, HBp.out, HBq.out]) ⟨_, rfl, macAt_nil _ _ _ (Nat.le_refl _), ?_⟩)
            exact (HB3.out.setCell (by simp) _).setCell (by simp) _
          case neg =>
            by_cases eqr : q = r
            case pos =>
              subst eqr
              go_wp2_with fail
              refine bodyPost_ret (v := .tuple #[.agg #[.slice none 0 0, .slice none 0 0], .bool false]) (by simp [results, Try.f23, go_sem, c0, c1]) rfl (HE.out false _ _ (by simp [lesB, HBp.out, HBq.out]) ⟨_, rfl, macAt_nil _ _ _ (Nat.le_refl _), ?_⟩)
              exact (HB3.out.setCell (by simp) _).setCell (by simp) _
            case neg =>
              have m0 : 0 ≤ p * q := Int.mul_nonneg (by omega) (by omega)
              have m1 : p * q ≤ 2500 := by
                have := Int.mul_le_mul up uq (by omega) (by omega)
                omega
              have n1 : decide (p = q) = false := by simpa using epq
              have n2 : decide (p = r) = false := by simpa using epr
              have n3 : decide (q = r) = false := by simpa using eqr
              have n4 : (p == q) = false := by simpa using epq
              have n5 : (p == r) = false := by simpa using epr
              have n6 : (q == r) = false := by simpa using eqr
              have hn1 : ¬ w3.heap.size = w.heap.size := by omega
              have hn2 : ¬ w.heap.size = w3.heap.size := by omega
              have hn3 : ¬ w3.heap.size + 1 = w.heap.size := by omega
              have hn4 : ¬ w.heap.size = w3.heap.size + 1 := by omega
              have hn5 : w.heap.size < w3.heap.size + 1 := by omega
              have hn6 : w.heap.size < w3.heap.size := by omega
              go_wp2_with fail
              refine bodyPost_ret (v := .tuple #[.agg #[.slice (some ⟨w3.heap.size, 0, none⟩) 3 3, .slice (some ⟨w3.heap.size + 1, 0, none⟩) 3 3], .bool true]) (by simp [results, Try.f23, go_sem, c0, c1, hn5, hn6]) rfl (HE.out true _ _ (by simp [lesB, HBp.out, HBq.out, HBr.out, n1, n2, n3]) ⟨_, rfl, ?_, ?_⟩)
              · exact macAt_new (M := w3.heap.size) (by simp) HB3.out.size (by simp) (row3_new (by simp) _ _ _ _) (row3_new (by simp) _ _ _ _) (fun _ _ => rfl)
              · exact (((HB3.out.setCell (by simp) _).setCell (by simp) _).alloc (by have := HB3.out.size; simp; omega) _).alloc (by have := HB3.out.size; simp; omega) _
end Go.Proofs.Ythafciggchdmpaa
