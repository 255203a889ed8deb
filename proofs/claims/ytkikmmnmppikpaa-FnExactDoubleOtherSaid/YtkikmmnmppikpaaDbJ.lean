/-
  'DoubleOther' of the program.
-/
import Derived.Test.YtkikmmnmppikpaaDbR1
import Derived.Test.YtkikmmnmppikpaaDbR2
import Derived.Test.YtkikmmnmppikpaaDbR3
import Derived.Test.YtkikmmnmppikpaaDbR4
import Derived.Test.YtkikmmnmppikpaaOtI
namespace Go.Proofs.Ytkikmmnmppikpaa
open Go.RowKit
set_option linter.unusedVariables false

/-- A block of a row's cells. -/
theorem ptRow_block {w : World} {g : Nat} {T : TypeId} (qs : List Pt) (h : w.heap[g]? = some (.cells (ptCells qs).toArray T (0, 0))) : PtRow w g qs := by
  intro k hk
  obtain ⟨e0, e1, e2⟩ := ptCells_at qs k hk
  refine ⟨⟨?_, ?_, ?_⟩, ?_, ?_, ?_⟩
  · simp [World.cell?, h, e0]
  · simp [World.cell?, h, e1]
  · simp [World.cell?, h, e2]
  all_goals simp [World.frozen?, h]
theorem repeat_any (K : Nat) (hK0 : 0 < K) (hK : K ≤ 4) (ps : List Pt) (hl : ps.length = K) (g c : Nat) (w : World) (hg : g < w.heap.size)
    (hsrc : ∀ j u, (ptCells ps)[j]? = some u → w.cell? ((⟨g, 0, none⟩ : Addr).add j) = some u) :
    Calls Try.prog 57 #[.slice (some ⟨g, 0, none⟩) K c, .int .i64 2] w fun e w' =>
      e = .returned (.slice (some ⟨w.heap.size, 0, none⟩) (K + K) (K + K)) ∧ PRow w' w.heap.size w'.heap.size (some ⟨w.heap.size, 0, none⟩) (ps ++ ps) ∧ Below w.heap.size w w' := by
  have fin : ∀ w', w'.heap[w.heap.size]? = some (.cells (ptCells ps ++ ptCells ps).toArray 88 (0, 0)) → PRow w' w.heap.size w'.heap.size (some ⟨w.heap.size, 0, none⟩) (ps ++ ps) := by
    intro w' h _
    rw [← ptCells_append] at h
    exact ⟨_, rfl, Nat.le_refl _, (Array.getElem?_eq_some_iff.1 h).1, ptRow_block _ h⟩
  have hL := ptCells_length ps
  rw [hl] at hL
  have hk : K = 1 ∨ K = 2 ∨ K = 3 ∨ K = 4 := by omega
  rcases hk with rfl | rfl | rfl | rfl
  · exact (repeat_1 g c _ hL (ptCells_one ps) w hg hsrc).mono (by rintro e w' ⟨rfl, h1, h2⟩; exact ⟨rfl, fin _ h1, h2⟩)
  · exact (repeat_2 g c _ hL (ptCells_one ps) w hg hsrc).mono (by rintro e w' ⟨rfl, h1, h2⟩; exact ⟨rfl, fin _ h1, h2⟩)
  · exact (repeat_3 g c _ hL (ptCells_one ps) w hg hsrc).mono (by rintro e w' ⟨rfl, h1, h2⟩; exact ⟨rfl, fin _ h1, h2⟩)
  · exact (repeat_4 g c _ hL (ptCells_one ps) w hg hsrc).mono (by rintro e w' ⟨rfl, h1, h2⟩; exact ⟨rfl, fin _ h1, h2⟩)

set_option maxRecDepth 100000 in
set_option maxHeartbeats 4000000 in
theorem iDoubleOther (ps : List Pt) (v : Value) (w : World) (hl : ps.length ≤ 1048576) (h : OthIn w v ps) :
    Calls Try.prog 25 #[v] w (RetOth (dbX ps) (dbB ps) w) := by
  obtain ⟨a, c, rfl, hx⟩ := h.rd
  have HG := Lib.hid (fun X Y => isOther_any ps (.agg #[.slice a ps.length c]) ((w.alloc X).alloc Y) hl (h.kept ((below_new w X).alloc (by simp) Y)))
  have HX := Lib.hid hx
  clear h hx
  by_cases hg : omB ps = true
  case neg =>
    have hg' : omB ps = false := by simpa using hg
    rw [hg'] at HG
    have HL : Hid (dbX ps = []) := Lib.hid (by rw [dbX, if_neg (by simp [hg'])])
    have HL2 : Hid (dbB ps = false) := Lib.hid (by simp [dbB, hg'])
    rw [HL.out, HL2.out]
    clear hg hg' hl HX
    generalize ps.length = K at *
    go_enter Try.func25, Try.ntmps25
    go_wp2_with fail
    refine (HG.out _ _).mono ?_
    rintro e w1 ⟨rfl, hb1⟩
    obtain ⟨h0, h1⟩ := (show w1.cell? ⟨w.heap.size + 1, 0, none⟩ = some (.slice none 0 0) ∧ w1.frozen? ⟨w.heap.size + 1, 0, none⟩ = false from ⟨(hb1.cell (p := ⟨w.heap.size + 1, 0, none⟩) (by simp)).trans (by go_simp), (hb1.frozen (p := ⟨w.heap.size + 1, 0, none⟩) (by simp)).trans (by go_simp)⟩)
    have h9 : w1.cell? ⟨w.heap.size, 0, none⟩ = some (.slice a K c) := (hb1.cell (p := ⟨w.heap.size, 0, none⟩) (by simp; omega)).trans (by go_simp)
    have hsz : w.heap.size + 1 < w1.heap.size := by have := hb1.size; simp at this; omega
    have hbw : Below w.heap.size w w1 := (((Below.refl _ w).alloc (Nat.le_refl _) (.cells #[.slice a K c] 54)).alloc (by simp) (.cells #[.slice none 0 0] 54)).trans (hb1.mono (by simp; omega))
    have HB1 := Lib.hid hbw
    clear hb1 hbw
    go_wp2_with fail
    refine bodyPost_ret (v := .tuple #[.agg #[.slice none 0 0], .bool false]) (by simp [results, Try.f25, go_sem, h0]) rfl ⟨_, rfl, ⟨Nat.le_refl _, none, 0, rfl, fun h => (h rfl).elim⟩, ?_⟩
    exact HB1.out.setCell (p := ⟨w.heap.size + 1, 0, none⟩) (by simp) _
  case pos =>
    rw [hg] at HG
    by_cases h2 : 2 * ps.length ≤ 8
    case neg =>
      have hg' := hg
      have HL : Hid (dbX ps = []) := Lib.hid (by rw [dbX, if_neg (by simp [hg', h2])])
      have HL2 : Hid (dbB ps = false) := Lib.hid (by simp [dbB, hg', h2])
      rw [HL.out, HL2.out]
      obtain ⟨K, hK⟩ : ∃ K, ps.length = K := ⟨_, rfl⟩
      have hK8 := (omB_len hg).2
      rw [hK] at h2 HG hK8
      rw [hK]
      have hk2 : (8 : Int) < 2 * (K : Int) := by omega
      have hk3 : (K : Int) ≤ 8 := by omega
      have hwk : IntKind.i64.wrap (2 * (K : Int)) = 2 * (K : Int) := IntWalk.i64_in _ (by omega)
      clear hg hg' hl HX h2 hK hK8
      go_enter Try.func25, Try.ntmps25
      go_wp2_with fail
      refine (HG.out _ _).mono ?_
      rintro e w1 ⟨rfl, hb1⟩
      obtain ⟨h0, h1⟩ := (show w1.cell? ⟨w.heap.size + 1, 0, none⟩ = some (.slice none 0 0) ∧ w1.frozen? ⟨w.heap.size + 1, 0, none⟩ = false from ⟨(hb1.cell (p := ⟨w.heap.size + 1, 0, none⟩) (by simp)).trans (by go_simp), (hb1.frozen (p := ⟨w.heap.size + 1, 0, none⟩) (by simp)).trans (by go_simp)⟩)
      have h9 : w1.cell? ⟨w.heap.size, 0, none⟩ = some (.slice a K c) := (hb1.cell (p := ⟨w.heap.size, 0, none⟩) (by simp; omega)).trans (by go_simp)
      have hsz : w.heap.size + 1 < w1.heap.size := by have := hb1.size; simp at this; omega
      have hbw : Below w.heap.size w w1 := (((Below.refl _ w).alloc (Nat.le_refl _) (.cells #[.slice a K c] 54)).alloc (by simp) (.cells #[.slice none 0 0] 54)).trans (hb1.mono (by simp; omega))
      have HB1 := Lib.hid hbw
      clear hb1 hbw
      go_wp2_with fail
      refine bodyPost_ret (v := .tuple #[.agg #[.slice none 0 0], .bool false]) (by simp [results, Try.f25, go_sem, h0]) rfl ⟨_, rfl, ⟨Nat.le_refl _, none, 0, rfl, fun h => (h rfl).elim⟩, ?_⟩
      exact HB1.out.setCell (p := ⟨w.heap.size + 1, 0, none⟩) (by simp) _
    case pos =>
      have HL : Hid (dbX ps = ps ++ ps) := Lib.hid (by rw [dbX, if_pos ⟨hg, h2⟩])
      have HL2 : Hid (dbB ps = true) := Lib.hid (by simp [dbB, hg, h2])
      rw [HL.out, HL2.out]
      obtain ⟨K, hK⟩ : ∃ K, ps.length = K := ⟨_, rfl⟩
      have hK0 : 0 < K := by have := (omB_len hg).1; omega
      have HR := Lib.hid (fun g c W => repeat_any K hK0 (by omega) ps hK g c W)
      rw [hK] at h2 HX HG
      rw [hK]
      have hk2 : ¬ (8 : Int) < 2 * (K : Int) := by omega
      have hk3 : (K : Int) ≤ 4 := by omega
      have hKK := Lib.hid hK
      have hwk : IntKind.i64.wrap (2 * (K : Int)) = 2 * (K : Int) := IntWalk.i64_in _ (by omega)
      clear hg hl hK
      go_enter Try.func25, Try.ntmps25
      go_wp2_with fail
      refine (HG.out _ _).mono ?_
      rintro e w1 ⟨rfl, hb1⟩
      obtain ⟨h0, h1⟩ := (show w1.cell? ⟨w.heap.size + 1, 0, none⟩ = some (.slice none 0 0) ∧ w1.frozen? ⟨w.heap.size + 1, 0, none⟩ = false from ⟨(hb1.cell (p := ⟨w.heap.size + 1, 0, none⟩) (by simp)).trans (by go_simp), (hb1.frozen (p := ⟨w.heap.size + 1, 0, none⟩) (by simp)).trans (by go_simp)⟩)
      have h2' : w1.cell? ⟨w.heap.size, 0, none⟩ = some (.slice a K c) := (hb1.cell (p := ⟨w.heap.size, 0, none⟩) (by simp; omega)).trans (by go_simp)
      have hbw : Below w.heap.size w w1 := (((Below.refl _ w).alloc (Nat.le_refl _) (.cells #[.slice a K c] 54)).alloc (by simp) (.cells #[.slice none 0 0] 54)).trans (hb1.mono (by simp; omega))
      have hsz : w.heap.size + 1 < w1.heap.size := by have := hb1.size; simp at this; omega
      have HB1 := Lib.hid hbw
      clear hb1 hbw
      obtain ⟨g, rfl, hgl, _⟩ := HX.out 0 hK0
      have HSRC : Hid (∀ W, Below w.heap.size w W → ∀ j u, (ptCells ps)[j]? = some u → W.cell? ((⟨g, 0, none⟩ : Addr).add j) = some u) := Lib.hid (fun W hb => ptCells_src (fun k hk => by
        obtain ⟨g', he, _, q⟩ := HX.out k (by rw [← hKK.out]; exact hk)
        cases he
        exact q.of (hb.block g hgl)))
      have hgl1 : g < w1.heap.size := Nat.lt_of_lt_of_le hgl HB1.out.size
      go_wp2_with fail
      refine (HR.out g c _ hgl1 (HSRC.out _ HB1.out)).mono ?_
      rintro e w2 ⟨rfl, hp2, hb2⟩
      have HP2 := Lib.hid hp2
      have k0 := kept_cell hb2 (by omega) h0
      have k1 := kept_free hb2 (by omega) h1
      have hs2 := hb2.size
      have hws := HB1.out.size
      have HB2 := Lib.hid (HB1.out.trans (hb2.mono HB1.out.size))
      clear hb2 hp2 h0 h1 h2'
      go_wp2_with fail
      refine bodyPost_ret (v := .tuple #[.agg #[.slice (some ⟨w1.heap.size, 0, none⟩) (K + K) (K + K)], .bool true]) (by simp [results, Try.f25, go_sem, k0]) rfl ⟨_, rfl, ⟨Nat.le_refl _, _, _, by rw [List.length_append, hKK.out], ?_⟩, ?_⟩
      · simp only [World.size_setCell]
        exact (HP2.out.of (fun x hx _ => Below.heap_setCell _ _ _ _ (by simp; omega))).wide hws (Nat.le_refl _)
      · exact HB2.out.setCell (p := ⟨w.heap.size + 1, 0, none⟩) (by simp) _
end Go.Proofs.Ytkikmmnmppikpaa
