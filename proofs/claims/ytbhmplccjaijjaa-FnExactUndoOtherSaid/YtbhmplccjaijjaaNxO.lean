/-
  'next' of the program: a step of an other map.
-/
import Derived.Test.YtbhmplccjaijjaaPt
import Derived.Test.YtbhmplccjaijjaaRem
import Derived.Deep.RegionWith
namespace Go.Proofs.Ytbhmplccjaijjaa
open Go.RowKit
set_option linter.unusedVariables false

theorem behind_any (t p o n x : Int) (w : World) (hx : t * n = x) (hb1 : -20000000000020 ≤ x + p) (hb2 : x + p ≤ 20000000000020) (hp1 : -20 ≤ p) (hp2 : p ≤ 20) (ho : 1 ≤ o) :
    Calls Try.prog 91 #[.agg #[.int .i64 t, .int .i64 p, .int .i64 o], .int .i64 n] w fun e w' => e = .returned (.int .i64 ((x + p).tdiv o)) ∧ Below w.heap.size w w' := by
  have ho0 : (o == 0) = false := by simp; omega
  have HB := Lib.hid (below_new w (.cells #[.int .i64 t, .int .i64 p, .int .i64 o] 65))
  go_enter Try.func91, Try.ntmps91
  go_wp2_with fail
  go_ret
  exact ⟨rfl, HB.out⟩

set_option maxRecDepth 100000 in
set_option maxHeartbeats 4000000 in
theorem next_any (ps : List Pt) (n : Int) (v : Value) (w : World) (hg : omB ps = true) (hn : numB n = true) (h : OthIn w v ps) :
    Calls Try.prog 64 #[v, .int .i64 n] w fun e w' => e = .returned (.int .i64 (omN ps n)) ∧ Below w.heap.size w w' := by
  obtain ⟨a, c, rfl, hx⟩ := h.rd
  have hl := omB_len hg
  have hr := res_lt n hl.1
  have hrc := res_cast n hl.1
  obtain ⟨g, rfl, hgl, q⟩ := hx _ hr
  have HE : Hid (((ptOf ps n).1 * n + (ptOf ps n).2.1).tdiv (ptOf ps n).2.2 = omN ps n) := Lib.hid (om_tdiv hg n)
  have hbig := pt_big (ptOf_in hg n) hn
  have hin := ptIn_iff.1 (ptOf_in hg n)
  unfold ptOf at HE hbig hin
  obtain ⟨r, hrr⟩ : ∃ r, res ps.length n = r := ⟨_, rfl⟩
  obtain ⟨K, hK⟩ : ∃ K, ps.length = K := ⟨_, rfl⟩
  have HC := Lib.hid (fun w => remainderOf_any n ps.length w (by omega) (by omega))
  rw [← hrc] at HC
  rw [hrr] at HC q HE hbig hin hr
  rw [hK] at HC hr hl ⊢
  obtain ⟨pt, hpt⟩ : ∃ pt, ps.getD r pt0 = pt := ⟨_, rfl⟩
  rw [hpt] at q HE hbig hin
  obtain ⟨t, p, o⟩ := pt
  obtain ⟨k0, k1, k2⟩ := q
  dsimp only at k0 k1 k2 HE hbig hin
  obtain ⟨hb1, hb2⟩ := hbig
  obtain ⟨i1, i2, i3, i4, i5, i6⟩ := hin
  have HD := Lib.hid (fun w => behind_any t p o n (t * n) w rfl hb1 hb2 i3 i4 i5)
  rw [HE.out] at HD
  have HB := Lib.hid (below_new w (.cells #[.slice (some ⟨g, 0, none⟩) K c] 29))
  have hne : ¬ (g = w.heap.size) := by omega
  have hne2 : ¬ (w.heap.size = g) := by omega
  have hr2 : (r : Int) < (K : Int) := by omega
  have hr0 : (0 : Int) ≤ (r : Int) := by omega
  have hl2 : (K : Int) ≤ 8 := by omega
  clear hl hx h hrc hrr hK hpt hg hn hb1 hb2 HE
  go_enter Try.func64, Try.ntmps64
  go_wp2_with fail
  go_region_with (first
    | (go_at_call 83; refine (HC.out _).mono ?_; rintro e w4 ⟨rfl, rfl⟩)
    | (go_at_call 91; refine (HD.out _).mono ?_; rintro e w5 ⟨rfl, hb5⟩))
  all_goals
    go_wp2_with fail
    go_ret
    exact ⟨rfl, by first | exact HB.out.trans (hb5.mono HB.out.size) | exact HB.out.drew.trans (hb5.mono HB.out.drew.size) | exact (HB.out.trans (hb5.mono HB.out.size)).drew | exact HB.out.drew.drew.trans (hb5.mono HB.out.drew.drew.size)⟩
end Go.Proofs.Ytbhmplccjaijjaa
