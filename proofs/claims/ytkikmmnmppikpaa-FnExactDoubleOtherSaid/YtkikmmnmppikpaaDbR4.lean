/-
  slices.Repeat of a row of 4 parts, twice.
-/
import Derived.Test.YtkikmmnmppikpaaDbI
import Derived.Deep.RegionLaw
namespace Go.Proofs.Ytkikmmnmppikpaa
open Go.RowKit
set_option linter.unusedVariables false

set_option maxRecDepth 100000 in
set_option maxHeartbeats 4000000 in
theorem repeat_4 (g c : Nat) (L : List Value) (hL : L.length = 12) (hone : ∀ v ∈ L, v.oneCell' = true) (w : World) (hg : g < w.heap.size)
    (hsrc : ∀ j v, L[j]? = some v → w.cell? ((⟨g, 0, none⟩ : Addr).add j) = some v) :
    Calls Try.prog 57 #[.slice (some ⟨g, 0, none⟩) 4 c, .int .i64 2] w fun e w' =>
      e = .returned (.slice (some ⟨w.heap.size, 0, none⟩) 8 8) ∧ w'.heap[w.heap.size]? = some (.cells (L ++ L).toArray 88 (0, 0)) ∧ Below w.heap.size w w' := by
  have HML := Lib.hid (mul_lit 4 (by decide))
  have HSRC : Hid (∀ (W : World), W.heap[g]? = w.heap[g]? → ∀ (j : Nat) (v : Value), L[j]? = some v → W.cell? ((⟨g, 0, none⟩ : Addr).add j) = some v) := Lib.hid (fun W hb j v hv => by
    have e : ((⟨g, 0, none⟩ : Addr).add j) = ⟨g, j, none⟩ := by simp [Addr.add]; intro h; exact h.symm
    have h := hsrc j v hv
    rw [e] at h ⊢
    exact (World.cell?_of_block (a := ⟨g, j, none⟩) hb).trans h)
  have HONE := Lib.hid hone
  have HLL := Lib.hid hL
  obtain ⟨i0, hi, hi0, hi1, hi2⟩ := info_parts infoPt
  clear hsrc hone hL
  have hsz3 : Hid ((Try.prog.info? 88).map (·.size) = some 3) := Lib.hid (by rw [hi]; simp [hi1])
  go_enter Try.func57, Try.ntmps57
  go_wp2_with fail
  refine (HML.out _).mono ?_
  rintro e w' ⟨rfl, rfl⟩
  go_wp2_with (at_make; refine wpList_make_full _ rfl _ _ 52 rfl w.heap.size 88 i0 (.agg #[.int .i64 0, .int .i64 0, .int .i64 0]) 3 Try.underlying52 hi hi0 hi1 .i64 .i64 8 8 8 rfl rfl rfl rfl ?c1 ?c2 ?c3 ?_; rotate_right; intro w3 hown3 hgrow3)
  case c1 => rw [hi2]; omega
  case c2 => unfold maxLen; omega
  case c3 => simp
  have HW3 : Hid (Below w.heap.size w w3) := Lib.hid ((Below.refl _ w).grown hgrow3 (Nat.le_refl _) (fun k e => by simp at e))
  obtain ⟨cur, hcur, hcl⟩ : ∃ cur : List Value, w3.heap[w.heap.size]? = some (.cells cur.toArray 88 (0, 0)) ∧ cur.length = 24 := by
    rcases hown3.2 with ⟨h, _⟩ | ⟨g', cap, cu, hv, _, hh, _, _, hs, _⟩
    · cases h
    · simp only [Value.slice.injEq, Option.some.injEq, Addr.mk.injEq] at hv
      obtain ⟨⟨rfl, _⟩, _, rfl⟩ := hv
      exact ⟨cu.toList, by simpa using hh, by simpa using hs⟩
  have HC := Lib.hid hcur
  have HCL := Lib.hid hcl
  have hgn : ¬ (g = w.heap.size) := by omega
  clear hown3 hgrow3 hcur hcl
  obtain ⟨w4, hrun, HG4, HB4⟩ := copy_rows (P := Try.prog) w3 52 52 3 88 w.heap.size 0 8 8 ⟨g, 0, none⟩ 4 c cur 88 L 3 4 Try.underlying52 hsz3.out HC.out rfl HLL.out (HSRC.out _ (HW3.out.block g hg)) (by rw [HLL.out, HCL.out]; decide) HONE.out (L ++ cur.drop 12) (by rw [HLL.out]; simp) w.heap.size w HW3.out (Nat.le_refl _)
  go_wp2_with fail
  rw [hrun]
  clear hrun
  go_wp2_with fail
  have HL1 : Hid ((L ++ cur.drop 12).length = 24) := Lib.hid (by rw [List.length_append, List.length_drop, HLL.out, HCL.out])
  go_loopw [8] (fun n wr => (n = .int .i64 4 ∧ wr.heap[w.heap.size]? = some (.cells (L ++ cur.drop 12).toArray 88 (0, 0)) ∧ Below w.heap.size w wr) ∨ (n = .int .i64 8 ∧ wr.heap[w.heap.size]? = some (.cells (L ++ L).toArray 88 (0, 0)) ∧ Below w.heap.size w wr)) (fun n _ => 8 - (RowKit.intOf n).toNat)
  case atStart => exact .inl ⟨rfl, HG4.out, HB4.out⟩
  case round =>
    clear HG4 HB4 HC HW3
    rcases hrel with ⟨rfl, hg4, hb4⟩ | ⟨rfl, hg4, hb4⟩
    · have HG := Lib.hid hg4
      have HB := Lib.hid hb4
      have HSL : Hid (∀ (j : Nat) (v : Value), L[j]? = some v → wr.cell? ((⟨w.heap.size, 0, none⟩ : Addr).add j) = some v) := Lib.hid (fun j v hv => by
        have e : ((⟨w.heap.size, 0, none⟩ : Addr).add j) = ⟨w.heap.size, j, none⟩ := by simp [Addr.add]; intro h; exact h.symm
        rw [e]
        simp [World.cell?, HG.out, List.getElem?_append_left (show j < L.length from (List.getElem?_eq_some_iff.1 hv).1), hv])
      clear hg4 hb4
      go_wp2_with fail
      go_region_law (refine step_copy_rows rfl (.tmp 41) (.tmp 44) 52 52 rfl 88 w.heap.size 12 4 4 ⟨w.heap.size, 0, none⟩ 4 8 (by first | rfl | simp [Act.eval]) (by first | rfl | simp [Act.eval]) (L ++ cur.drop 12) 88 L 3 4 Try.underlying52 hsz3.out (by first | exact HG.out) rfl HLL.out (by first | exact HSL.out) (by rw [HLL.out, HL1.out]; decide) HONE.out (L ++ L) (by rw [HLL.out, List.take_left' HLL.out, List.drop_eq_nil_of_le (by rw [HL1.out]; decide), List.append_nil]) w.heap.size w (by first | exact HB.out | exact HB.out.drew | exact HB.out.drew.drew) (Nat.le_refl _) ?_; intro w5 HG5 HB5)
      all_goals
        go_wp2_with fail
        refine ⟨⟨.int .i64 8, _, _, _, _, _, _, _, _, _, _, _, _, _, .inr ⟨rfl, HG5.out, by first | exact HB5.out | exact HB5.out.drew⟩, rfl⟩, ?_⟩
        simp [RowKit.intOf, Act.put]
        try decide
    · have HG := Lib.hid hg4
      have HB := Lib.hid hb4
      clear hg4 hb4
      go_wp2_with fail
      go_ret
      exact ⟨rfl, HG.out, HB.out⟩
end Go.Proofs.Ytkikmmnmppikpaa
