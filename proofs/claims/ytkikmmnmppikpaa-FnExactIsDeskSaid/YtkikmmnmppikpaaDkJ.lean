/-
  'coGood', 'IsDesk', 'FirstDesk' of both.
-/
import Derived.Test.YtkikmmnmppikpaaDkL
import Derived.Deep.RegionWith
namespace Go.Proofs.Ytkikmmnmppikpaa
open Go.RowKit
set_option linter.unusedVariables false

/-- Is it a desk. -/
def dkB (t p n : Int) (ns ds : List Int) : Bool := goodB t p && numB n && maB ns ds

set_option maxHeartbeats 2000000 in
theorem coGood_any (t p n : Int) (ns ds : List Int) (v : Value) (w : World) (h1 : ns.length ≤ 1048576) (h2 : ds.length ≤ 1048576) (h : DkIn w v t p n ns ds) :
    Calls Try.prog 40 #[v] w fun e w' => e = .returned (.bool (dkB t p n ns ds)) ∧ Below w.heap.size w w' := by
  obtain ⟨v1, v2, rfl, hm⟩ := h
  have HB := Lib.hid (below_alloc w (.cells #[.int .i64 t, .int .i64 p, .int .i64 n, v1, v2] 28))
  have B := Lib.hid (Bd.new w t p n v1 v2 28)
  have HA := Lib.hid (fun W => mpGood_any t p W)
  have HN := Lib.hid (fun W => mpIs_any n W)
  have HM := Lib.hid (fun W (hb : Below w.heap.size w W) => maGood_any ns ds _ W h1 h2 (hm.kept hb))
  have HE : Hid (dkB t p n ns ds = (goodB t p && numB n && maB ns ds)) := Lib.hid rfl
  generalize dkB t p n ns ds = r at HE ⊢
  generalize maB ns ds = c at HM HE
  generalize goodB t p = g at HA HE
  generalize numB n = k at HN HE
  clear hm h1 h2
  cases g
  · go_enter Try.func40, Try.ntmps40
    go_wp2_with (go_at_call 61; refine (HA.out _).mono ?_; rintro e w1 ⟨rfl, hb1⟩; have HB1 := Lib.hid (HB.out.trans (hb1.mono HB.out.size)); obtain ⟨⟨p0, p1, p2, p4, p5⟩, p3⟩ := (B.out.kept hb1); clear hb1)
    go_ret
    exact ⟨ret_bool (by rw [HE.out]; rfl), HB1.out⟩
  · cases k
    · go_enter Try.func40, Try.ntmps40
      go_wp2_with (first
        | (go_at_call 61; refine (HA.out _).mono ?_; rintro e w1 ⟨rfl, hb1⟩; have HB1 := Lib.hid (HB.out.trans (hb1.mono HB.out.size)); obtain ⟨⟨p0, p1, p2, p4, p5⟩, p3⟩ := (B.out.kept hb1); clear hb1)
        | (go_at_call 75; refine (HN.out _).mono ?_; rintro e w2 ⟨rfl, rfl⟩))
      go_ret
      exact ⟨ret_bool (by rw [HE.out]; rfl), HB1.out⟩
    · go_enter Try.func40, Try.ntmps40
      go_wp2_with (first
        | (go_at_call 61; refine (HA.out _).mono ?_; rintro e w1 ⟨rfl, hb1⟩; have HB1 := Lib.hid (HB.out.trans (hb1.mono HB.out.size)); obtain ⟨⟨p0, p1, p2, p4, p5⟩, p3⟩ := (B.out.kept hb1); clear hb1)
        | (go_at_call 75; refine (HN.out _).mono ?_; rintro e w2 ⟨rfl, rfl⟩)
        | (go_at_call 76; refine (HM.out _ HB1.out).mono ?_; rintro e w3 ⟨rfl, hb3⟩; have HB3 := Lib.hid (HB1.out.trans (hb3.mono HB1.out.size)); clear hb3))
      go_ret
      exact ⟨ret_bool (by rw [HE.out]; rfl), HB3.out⟩

set_option maxHeartbeats 2000000 in
theorem isDesk_any (t p n : Int) (ns ds : List Int) (v : Value) (w : World) (h1 : ns.length ≤ 1048576) (h2 : ds.length ≤ 1048576) (h : DkIn w v t p n ns ds) :
    Calls Try.prog 16 #[v] w fun e w' => e = .returned (.bool (dkB t p n ns ds)) ∧ Below w.heap.size w w' := by
  obtain ⟨v1, v2, rfl, hm⟩ := h
  have HB := Lib.hid (below_alloc w (.cells #[.int .i64 t, .int .i64 p, .int .i64 n, v1, v2] 28))
  have B := Lib.hid (Bd.new w t p n v1 v2 28)
  have HA := Lib.hid (fun W => isMap_any t p W)
  have HN := Lib.hid (fun W => isNumber_any n W)
  have HM := Lib.hid (fun W (hb : Below w.heap.size w W) => isMachine_any ns ds _ W h1 h2 (hm.kept hb))
  have HE : Hid (dkB t p n ns ds = (goodB t p && numB n && maB ns ds)) := Lib.hid rfl
  generalize dkB t p n ns ds = r at HE ⊢
  generalize maB ns ds = c at HM HE
  generalize goodB t p = g at HA HE
  generalize numB n = k at HN HE
  clear hm h1 h2
  cases g
  · go_enter Try.func16, Try.ntmps16
    go_wp2_with (go_at_call 42; refine (HA.out _).mono ?_; rintro e w1 ⟨rfl, hb1⟩; have HB1 := Lib.hid (HB.out.trans (hb1.mono HB.out.size)); obtain ⟨⟨p0, p1, p2, p4, p5⟩, p3⟩ := (B.out.kept hb1); clear hb1)
    go_ret
    exact ⟨ret_bool (by rw [HE.out]; rfl), HB1.out⟩
  · cases k
    · go_enter Try.func16, Try.ntmps16
      go_wp2_with (first
        | (go_at_call 42; refine (HA.out _).mono ?_; rintro e w1 ⟨rfl, hb1⟩; have HB1 := Lib.hid (HB.out.trans (hb1.mono HB.out.size)); obtain ⟨⟨p0, p1, p2, p4, p5⟩, p3⟩ := (B.out.kept hb1); clear hb1)
        | (go_at_call 43; refine (HN.out _).mono ?_; rintro e w2 ⟨rfl, rfl⟩))
      go_ret
      exact ⟨ret_bool (by rw [HE.out]; rfl), HB1.out⟩
    · go_enter Try.func16, Try.ntmps16
      go_wp2_with (first
        | (go_at_call 42; refine (HA.out _).mono ?_; rintro e w1 ⟨rfl, hb1⟩; have HB1 := Lib.hid (HB.out.trans (hb1.mono HB.out.size)); obtain ⟨⟨p0, p1, p2, p4, p5⟩, p3⟩ := (B.out.kept hb1); clear hb1)
        | (go_at_call 43; refine (HN.out _).mono ?_; rintro e w2 ⟨rfl, rfl⟩)
        | (go_at_call 44; refine (HM.out _ HB1.out).mono ?_; rintro e w3 ⟨rfl, hb3⟩; have HB3 := Lib.hid (HB1.out.trans (hb3.mono HB1.out.size)); clear hb3))
      go_ret
      exact ⟨ret_bool (by rw [HE.out]; rfl), HB3.out⟩

theorem sIsDesk (t p n : Int) (ns ds : List Int) (v : Value) (w : World) (h1 : ns.length ≤ 1048576) (h2 : ds.length ≤ 1048576) (h : DkIn w v t p n ns ds) :
    Calls Try.prog 14 #[v] w fun e w' => e = .returned (.bool (dkB t p n ns ds)) ∧ Below w.heap.size w w' := by
  have HG := Lib.hid (fun W (hb : Below w.heap.size w W) => coGood_any t p n ns ds v W h1 h2 (h.kept hb))
  obtain ⟨v1, v2, rfl, hm⟩ := h
  have HB := Lib.hid (below_alloc w (.cells #[.int .i64 t, .int .i64 p, .int .i64 n, v1, v2] 28))
  clear hm h1 h2
  go_enter Try.func14, Try.ntmps14
  go_wp2_with fail
  refine (HG.out _ HB.out).mono ?_
  rintro e w1 ⟨rfl, hb1⟩
  have HB1 := Lib.hid (HB.out.trans (hb1.mono HB.out.size))
  clear hb1
  go_wp2_with fail
  go_ret
  exact ⟨rfl, HB1.out⟩

theorem sFirstDesk (w : World) : Calls Try.prog 8 #[] w fun e w' => ∃ v, e = .returned v ∧ DkAt w' w.heap.size w'.heap.size v 3 1 7 [3] [2] ∧ Below w.heap.size w w' := by
  go_enter Try.func8, Try.ntmps8
  go_wp2
  refine bodyPost_ret (v := .agg #[.int .i64 3, .int .i64 1, .int .i64 7, .slice (some ⟨w.heap.size + 1, 0, none⟩) 1 1, .slice (some ⟨w.heap.size + 1 + 1, 0, none⟩) 1 1]) (by simp [results, Try.f8, go_sem]) rfl ⟨_, rfl, ⟨_, _, rfl, Nat.le_refl _, _, _, _, _, rfl, ?_, ?_, ?_⟩, (((Below.refl _ w).alloc (Nat.le_refl _) _).alloc (by simp) _).alloc (by simp; omega) _⟩
  · intro _
    refine ⟨_, rfl, by omega, by simp, fun j hj => ?_⟩
    obtain rfl : j = 0 := by simpa using hj
    exact ⟨by go_simp, by go_simp⟩
  · intro _
    refine ⟨_, rfl, by omega, by simp, fun j hj => ?_⟩
    obtain rfl : j = 0 := by simpa using hj
    exact ⟨by go_simp, by go_simp⟩
  · intro _ _ e
    simp at e

theorem iFirstDesk (w : World) : Calls Try.prog 9 #[] w fun e w' => ∃ v, e = .returned v ∧ DkAt w' w.heap.size w'.heap.size v 3 1 7 [3] [2] ∧ Below w.heap.size w w' := by
  go_enter Try.func9, Try.ntmps9
  go_wp2
  refine bodyPost_ret (v := .agg #[.int .i64 3, .int .i64 1, .int .i64 7, .slice (some ⟨w.heap.size + 1, 0, none⟩) 1 1, .slice (some ⟨w.heap.size + 1 + 1, 0, none⟩) 1 1]) (by simp [results, Try.f9, go_sem]) rfl ⟨_, rfl, ⟨_, _, rfl, Nat.le_refl _, _, _, _, _, rfl, ?_, ?_, ?_⟩, (((Below.refl _ w).alloc (Nat.le_refl _) _).alloc (by simp) _).alloc (by simp; omega) _⟩
  · intro _
    refine ⟨_, rfl, by omega, by simp, fun j hj => ?_⟩
    obtain rfl : j = 0 := by simpa using hj
    exact ⟨by go_simp, by go_simp⟩
  · intro _
    refine ⟨_, rfl, by omega, by simp, fun j hj => ?_⟩
    obtain rfl : j = 0 := by simpa using hj
    exact ⟨by go_simp, by go_simp⟩
  · intro _ _ e
    simp at e

theorem markDesk_any (t p n : Int) (ns ds : List Int) (v : Value) (lo hi : Nat) (w : World) (h1 : ns.length ≤ 1048576) (h2 : ds.length ≤ 1048576) (h : DkAt w lo hi v t p n ns ds) :
    Calls Try.prog 11 #[v, .int .i64 1] w fun e w' => e = .returned (.int .i64 (1 + (ns.length : Int) + (ds.length : Int))) ∧ Touch lo hi w w' ∧ DkAt w' lo hi v t p n (markK 1 ns.length) (markK (1 + (ns.length : Int)) ds.length) := by
  obtain ⟨v1, v2, rfl, hm⟩ := h
  have HB := Lib.hid (below_alloc w (.cells #[.int .i64 t, .int .i64 p, .int .i64 n, v1, v2] 28))
  have HC := Lib.hid (markMachine_any ns ds _ lo hi _ h1 h2 (hm.kept HB.out))
  obtain ⟨_, a1, c1, a2, c2, e, _⟩ := hm
  cases e
  have hk1 : (ns.length : Int) ≤ 1048576 := by omega
  have hk2 : (ds.length : Int) ≤ 1048576 := by omega
  clear h1 h2
  go_enter Try.func11, Try.ntmps11
  go_wp2_with fail
  refine HC.out.mono ?_
  rintro e w1 ⟨rfl, t1, m1⟩
  have T1 := Lib.hid ((Touch.of_below HB.out).trans t1)
  have M1 := Lib.hid m1
  clear t1 m1
  go_wp2_with fail
  go_ret
  exact ⟨rfl, T1.out, _, _, rfl, M1.out⟩
theorem heldDesk_any (n1 n2 : Nat) (t p n : Int) (v : Value) (lo hi : Nat) (w : World) (h1 : n1 ≤ 1048576) (h2 : n2 ≤ 1048576) (h : DkAt w lo hi v t p n (markK 1 n1) (markK (1 + (n1 : Int)) n2)) :
    Calls Try.prog 12 #[v, .int .i64 1] w fun e w' => e = .returned (.int .i64 (1 + (n1 : Int) + (n2 : Int))) ∧ Below w.heap.size w w' := by
  obtain ⟨v1, v2, rfl, hm⟩ := h
  have HB := Lib.hid (below_alloc w (.cells #[.int .i64 t, .int .i64 p, .int .i64 n, v1, v2] 28))
  have HC := Lib.hid (heldMachine_any n1 n2 _ lo hi _ h1 h2 (hm.kept HB.out))
  obtain ⟨_, a1, c1, a2, c2, e, _⟩ := hm
  cases e
  have hk1 : (n1 : Int) ≤ 1048576 := by omega
  have hk2 : (n2 : Int) ≤ 1048576 := by omega
  have hd2 : ¬ (1 + (n1 : Int) + (n2 : Int) < 0) := by omega
  clear h1 h2
  go_enter Try.func12, Try.ntmps12
  go_wp2_with fail
  refine HC.out.mono ?_
  rintro e w1 ⟨rfl, hb1⟩
  have HB1 := Lib.hid (HB.out.trans (hb1.mono HB.out.size))
  clear hb1
  go_wp2_with fail
  go_ret
  exact ⟨rfl, HB1.out⟩
end Go.Proofs.Ytkikmmnmppikpaa
