/-
  'cyTurn' of the model: what stands from the least number on, and behind it what stands ahead.
-/
import Derived.Test.YtklbejejadmehaaTurnC
import Derived.Deep.RegionLaw
import Derived.Test.YtklbejejadmehaaPartA
namespace Go.Proofs.Ytklbejejadmehaa
open Go.RowKit
set_option linter.unusedVariables false

set_option maxRecDepth 100000 in
set_option maxHeartbeats 2000000 in
theorem cyTurn_any (g off cap L : Nat) (xs : List Int) (w : World) (hL : xs.length = L + 1) (hl : L + 1 ≤ 1000) (hcap : L + 1 ≤ cap) (hcm : cap ≤ maxLen) (hp : PartAt w g off xs) (hg : g < w.heap.size) :
    Calls Try.prog 60 #[.slice (some ⟨g, off, none⟩) (L + 1) cap] w fun e w' => ∃ v, e = .returned v ∧ IntsAt w' w.heap.size v (xs.drop (far false (fun j => xs.getD j 0) L) ++ xs.take (far false (fun j => xs.getD j 0) L)) ∧ Below w.heap.size w w' := by
  obtain ⟨i0, hi, hi0, hi1, hi2⟩ := info_parts info3
  have HM := Lib.hid (fun w hc => mpFar_off (fun j => xs.getD j 0) L g off cap w (by omega) hc)
  have HC : Hid (∀ j, j ≤ L → w.cell? ⟨g, off + j, none⟩ = some (.int .i64 ((fun j => xs.getD j 0) j))) := Lib.hid (fun j hj => hp.at (by omega))
  have hj := far_le false (fun j => xs.getD j 0) L
  generalize far false (fun j => xs.getD j 0) L = j at HM hj ⊢
  have HPD := Lib.hid (hp.drop j)
  have HPT := Lib.hid (hp.take j)
  have hld : (xs.drop j).length = L + 1 - j := by rw [List.length_drop, hL]
  have hlt : (xs.take j).length = j := by rw [List.length_take, hL]; omega
  have HOW := Lib.hid (fun w h hg => l1Own_any g (off + j) (cap - j) (xs.drop j) w (by omega) h hg)
  rw [hld] at HOW
  generalize xs.drop j = ds at HPD HOW hld ⊢
  generalize xs.take j = ts at HPT hlt ⊢
  have hj1 : (j : Int) ≤ (L : Int) + 1 := by omega
  have hj2 : (L : Int) + 1 ≤ (cap : Int) := by omega
  have hL2 : (L : Int) + 1 ≤ 1000 := by omega
  have hcm2 : (cap : Int) ≤ 9223372036854775807 := by unfold maxLen at hcm; omega
  have hj3 : (j : Int) ≤ (cap : Int) := by omega
  have hcj : ¬ (cap = j) := by omega
  clear hp hL
  go_enter Try.func60, Try.ntmps60
  go_wp2_with fail
  refine (HM.out _ HC.out).mono ?_
  rintro e w2 ⟨rfl, rfl⟩
  go_wp2_with fail
  have HOWD := Lib.hid (HOW.out w.drew (HPD.out.kept hg ((Below.refl _ _).drew)) hg)
  have HPTD := Lib.hid (HPT.out.kept hg ((Below.refl _ w).drew))
  go_region_law (first
    | (go_simp; go_at_call 70; refine (HOWD.out).mono ?_; rintro e w4 ⟨v4, rfl, hr4, hb4⟩; have HO := Lib.hid hr4; have HB4 := Lib.hid hb4; have HPT2 := Lib.hid (HPTD.out.kept hg hb4))
    | (refine step_append_own rfl (.tmp 9) (.tmp 12) 36 rfl w.heap.size 3 i0 (.int .i64 0) 1 8 Try.underlying36 hi hi0 hi1 hi2 rfl (by decide) _ _ _ (by simp [Act.eval]) HO.out ⟨g, off, none⟩ j cap (ts.map (Value.int .i64)) (by simp [Act.eval]) (by simp [hlt]) HPT2.out (ints_one ts) (by unfold maxLen; omega) (by omega) HB4.out.size ?_; intro v' w3 hown3 hgrow))
  go_wp2_with fail
  go_ret
  rw [hld] at hown3
  refine ⟨v', rfl, ?_, ?_⟩
  · unfold IntsAt
    rw [List.length_append, List.map_append, hld, hlt]
    exact hown3
  · exact (((Below.refl _ w).drew).trans (HB4.out.mono (Nat.le_refl _))).grown hgrow HB4.out.size (fun k e => (HO.out.lt k e).1)
end Go.Proofs.Ytklbejejadmehaa
