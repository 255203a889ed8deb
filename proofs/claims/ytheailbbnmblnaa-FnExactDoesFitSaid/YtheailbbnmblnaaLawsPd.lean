/-
  THE WALKS OF THE LAWS 'IsClue', 'DoesFit'.
-/
import Derived.Test.YtheailbbnmblnaaPzK
import Derived.Test.YtheailbbnmblnaaArgCl
import Derived.Deep.RegionWith
namespace Go.Proofs.Ytheailbbnmblnaa
open Go.RowKit
set_option linter.unusedVariables false

theorem fnExactIsClue_law (k a b : Int) (w : World) :
    Calls Try.prog 3 #[.agg #[.int .i64 k, .int .i64 a, .int .i64 b]] w fun e w' => e = .returned (.bool true) ∧ Below w.heap.size w w' := by
  have HT := Lib.hid (fun W => toClue_any k a b W)
  have HS := Lib.hid (fun W => sIsClue k a b W)
  have HI := Lib.hid (fun W => isClue_any k a b W)
  generalize clB (k, a, b) = r at HS HI
  have HB := Lib.hid (below_new w (.cells #[.int .i64 k, .int .i64 a, .int .i64 b] 23))
  have HP : Hid (PtCell (w.alloc (.cells #[.int .i64 k, .int .i64 a, .int .i64 b] 23)) w.heap.size 0 (k, a, b)) := Lib.hid ⟨by go_simp, by go_simp, by go_simp⟩
  have HL : Hid (w.heap.size < (w.alloc (.cells #[.int .i64 k, .int .i64 a, .int .i64 b] 23)).heap.size) := Lib.hid (by simp)
  go_enter Try.func3, Try.ntmps3
  go_wp2_with fail
  refine (HT.out _).mono ?_
  rintro e w1 ⟨rfl, hb1⟩
  replace HP := Lib.hid (HP.out.of (hb1.block _ HL.out))
  replace HL := Lib.hid (Nat.lt_of_lt_of_le HL.out hb1.size)
  replace HB := Lib.hid (HB.out.trans (hb1.mono HB.out.size))
  clear hb1
  go_wp2_with fail
  refine (HS.out _).mono ?_
  rintro e w2 ⟨rfl, hb2⟩
  replace HP := Lib.hid (HP.out.of (hb2.block _ HL.out))
  replace HL := Lib.hid (Nat.lt_of_lt_of_le HL.out hb2.size)
  replace HB := Lib.hid (HB.out.trans (hb2.mono HB.out.size))
  clear hb2
  obtain ⟨p0, p1, p2⟩ := HP.out
  dsimp only at p0 p1 p2
  go_wp2_with fail
  refine (HT.out _).mono ?_
  rintro e w3 ⟨rfl, hb3⟩
  replace HB := Lib.hid (HB.out.trans (hb3.mono HB.out.size))
  clear hb3 p0 p1 p2 HP
  go_wp2_with fail
  refine (HI.out _).mono ?_
  rintro e w4 ⟨rfl, hb4⟩
  replace HB := Lib.hid (HB.out.trans (hb4.mono HB.out.size))
  clear hb4
  go_wp2_with fail
  go_ret
  exact ⟨rfl, HB.out⟩

set_option maxHeartbeats 8000000 in
theorem fnExactDoesFit_law (t p k a b n : Int) (hn : (Lit.int .i64 n).wf = true) (w : World) :
    Calls Try.prog 5 #[.agg #[.int .i64 t, .int .i64 p], .agg #[.int .i64 k, .int .i64 a, .int .i64 b], .int .i64 n] w fun e w' => e = .returned (.bool true) ∧ Below w.heap.size w w' := by
  clear hn
  have HM := Lib.hid (fun W => toMap_anyP t p W)
  have HT := Lib.hid (fun W => toClue_any k a b W)
  have HS := Lib.hid (fun W => sDoesFit t p k a b n W)
  have HI := Lib.hid (fun W => iDoesFit t p k a b n W)
  generalize dfX t p (k, a, b) n = r at HS HI
  generalize dfA t p (k, a, b) n = s at HS HI
  have HB : Hid (Below w.heap.size w ((w.alloc (.cells #[.int .i64 t, .int .i64 p] 29)).alloc (.cells #[.int .i64 k, .int .i64 a, .int .i64 b] 23))) := Lib.hid (((Below.refl _ w).alloc (Nat.le_refl _) _).alloc (by simp) _)
  have HC0 : Hid ((((w.alloc (.cells #[.int .i64 t, .int .i64 p] 29)).alloc (.cells #[.int .i64 k, .int .i64 a, .int .i64 b] 23)).cell? ⟨w.heap.size, 0, none⟩ = some (.int .i64 t) ∧ ((w.alloc (.cells #[.int .i64 t, .int .i64 p] 29)).alloc (.cells #[.int .i64 k, .int .i64 a, .int .i64 b] 23)).cell? ⟨w.heap.size, 1, none⟩ = some (.int .i64 p)) ∧ (((w.alloc (.cells #[.int .i64 t, .int .i64 p] 29)).alloc (.cells #[.int .i64 k, .int .i64 a, .int .i64 b] 23)).cell? ⟨w.heap.size + 1, 0, none⟩ = some (.int .i64 k) ∧ ((w.alloc (.cells #[.int .i64 t, .int .i64 p] 29)).alloc (.cells #[.int .i64 k, .int .i64 a, .int .i64 b] 23)).cell? ⟨w.heap.size + 1, 1, none⟩ = some (.int .i64 a) ∧ ((w.alloc (.cells #[.int .i64 t, .int .i64 p] 29)).alloc (.cells #[.int .i64 k, .int .i64 a, .int .i64 b] 23)).cell? ⟨w.heap.size + 1, 2, none⟩ = some (.int .i64 b)) ∧ w.heap.size + 1 < ((w.alloc (.cells #[.int .i64 t, .int .i64 p] 29)).alloc (.cells #[.int .i64 k, .int .i64 a, .int .i64 b] 23)).heap.size) := Lib.hid ⟨⟨by go_simp, by go_simp⟩, ⟨by go_simp, by go_simp, by go_simp⟩, by simp⟩
  obtain ⟨W, hW⟩ : ∃ W, ((w.alloc (.cells #[.int .i64 t, .int .i64 p] 29)).alloc (.cells #[.int .i64 k, .int .i64 a, .int .i64 b] 23)) = W := ⟨_, rfl⟩
  rw [hW] at HB HC0
  have HK : Hid (∀ W', Below W.heap.size W W' → W'.cell? ⟨w.heap.size, 0, none⟩ = some (.int .i64 t) ∧ W'.cell? ⟨w.heap.size, 1, none⟩ = some (.int .i64 p) ∧ W'.cell? ⟨w.heap.size + 1, 0, none⟩ = some (.int .i64 k) ∧ W'.cell? ⟨w.heap.size + 1, 1, none⟩ = some (.int .i64 a) ∧ W'.cell? ⟨w.heap.size + 1, 2, none⟩ = some (.int .i64 b)) := Lib.hid (fun W' hb => by
    obtain ⟨⟨a0, a1⟩, ⟨b0, b1, b2⟩, hz⟩ := HC0.out
    have hz2 : w.heap.size < W.heap.size := by omega
    exact ⟨(hb.cell (p := ⟨w.heap.size, 0, none⟩) hz2).trans a0, (hb.cell (p := ⟨w.heap.size, 1, none⟩) hz2).trans a1, (hb.cell (p := ⟨w.heap.size + 1, 0, none⟩) hz).trans b0, (hb.cell (p := ⟨w.heap.size + 1, 1, none⟩) hz).trans b1, (hb.cell (p := ⟨w.heap.size + 1, 2, none⟩) hz).trans b2⟩)
  have HX : Hid (Below W.heap.size W W) := Lib.hid (Below.refl _ _)
  obtain ⟨c0, c1, c2, c3, c4⟩ := HK.out _ HX.out
  go_enter Try.func5, Try.ntmps5
  go_wp2_with fail
  try rw [hW]
  clear hW
  go_region_with (first
    | (go_at_call 24; refine (HM.out _).mono ?_; rintro e wA ⟨rfl, hbA⟩; replace HX : Hid (Below W.heap.size W wA) := Lib.hid (by first | exact HX.out.trans (hbA.mono HX.out.size) | exact HX.out.trans (((Below.refl _ _).drew.trans hbA).mono HX.out.size) | exact HX.out.trans (((Below.refl _ _).drew.drew.trans hbA).mono HX.out.size)); clear hbA; obtain ⟨c0, c1, c2, c3, c4⟩ := HK.out _ HX.out)
    | (go_at_call 16; refine (HT.out _).mono ?_; rintro e wA ⟨rfl, hbA⟩; replace HX : Hid (Below W.heap.size W wA) := Lib.hid (by first | exact HX.out.trans (hbA.mono HX.out.size) | exact HX.out.trans (((Below.refl _ _).drew.trans hbA).mono HX.out.size) | exact HX.out.trans (((Below.refl _ _).drew.drew.trans hbA).mono HX.out.size)); clear hbA; obtain ⟨c0, c1, c2, c3, c4⟩ := HK.out _ HX.out)
    | (go_at_call 23; refine (HS.out _).mono ?_; rintro e wA ⟨rfl, hbA⟩; replace HX : Hid (Below W.heap.size W wA) := Lib.hid (by first | exact HX.out.trans (hbA.mono HX.out.size) | exact HX.out.trans (((Below.refl _ _).drew.trans hbA).mono HX.out.size) | exact HX.out.trans (((Below.refl _ _).drew.drew.trans hbA).mono HX.out.size)); clear hbA; obtain ⟨c0, c1, c2, c3, c4⟩ := HK.out _ HX.out))
  all_goals go_wp2_with fail
  all_goals
    go_region_with (first
      | (go_at_call 24; refine (HM.out _).mono ?_; rintro e wA ⟨rfl, hbA⟩; replace HX : Hid (Below W.heap.size W wA) := Lib.hid (by first | exact HX.out.trans (hbA.mono HX.out.size) | exact HX.out.trans (((Below.refl _ _).drew.trans hbA).mono HX.out.size) | exact HX.out.trans (((Below.refl _ _).drew.drew.trans hbA).mono HX.out.size)); clear hbA; obtain ⟨c0, c1, c2, c3, c4⟩ := HK.out _ HX.out)
      | (go_at_call 16; refine (HT.out _).mono ?_; rintro e wA ⟨rfl, hbA⟩; replace HX : Hid (Below W.heap.size W wA) := Lib.hid (by first | exact HX.out.trans (hbA.mono HX.out.size) | exact HX.out.trans (((Below.refl _ _).drew.trans hbA).mono HX.out.size) | exact HX.out.trans (((Below.refl _ _).drew.drew.trans hbA).mono HX.out.size)); clear hbA; obtain ⟨c0, c1, c2, c3, c4⟩ := HK.out _ HX.out)
      | (go_at_call 25; refine (HI.out _).mono ?_; rintro e wA ⟨rfl, hbA⟩; replace HX : Hid (Below W.heap.size W wA) := Lib.hid (by first | exact HX.out.trans (hbA.mono HX.out.size) | exact HX.out.trans (((Below.refl _ _).drew.trans hbA).mono HX.out.size) | exact HX.out.trans (((Below.refl _ _).drew.drew.trans hbA).mono HX.out.size)); clear hbA; obtain ⟨c0, c1, c2, c3, c4⟩ := HK.out _ HX.out))
  all_goals
    go_wp2_with fail
    go_ret
    exact ⟨rfl, by first | exact HB.out.trans (HX.out.mono HB.out.size) | exact (HB.out.trans (HX.out.mono HB.out.size)).drew | exact (HB.out.trans (HX.out.mono HB.out.size)).drew.drew⟩
end Go.Proofs.Ytheailbbnmblnaa
