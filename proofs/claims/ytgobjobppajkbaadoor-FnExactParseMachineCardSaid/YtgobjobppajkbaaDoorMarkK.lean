/-
  'markIntS', 'heldIntS' of the laws from whatever number on; rows that lie in a stretch of blocks.
-/
import Derived.Test.YtgobjobppajkbaaDoorLists
namespace Go.Proofs.YtgobjobppajkbaaDoor
open Go.RowKit
set_option linter.unusedVariables false

/-- The numbers k, k + 1, .. in a row. -/
def markK (k : Int) (L : Nat) : List Int := (List.range L).map fun (i : Nat) => k + (i : Int)
theorem markK_length (k : Int) (L : Nat) : (markK k L).length = L := by simp [markK]
theorem markK_at {k : Int} {L j : Nat} (h : j < L) : (markK k L).getD j 0 = k + (j : Int) := by
  simp [markK, List.getD_eq_getElem?_getD, h]
/-- A slice of integers that lies in a block from lo on, below hi, if it is not empty. -/
def RowIn (w : World) (lo hi : Nat) (a : Option Addr) (xs : List Int) : Prop := xs ≠ [] → ∃ g, a = some ⟨g, 0, none⟩ ∧ lo ≤ g ∧ g < hi ∧ IntRow w g xs
theorem IntRow.of {w w' : World} {g : Nat} {xs : List Int} (h : IntRow w g xs) (he : w'.heap[g]? = w.heap[g]?) : IntRow w' g xs :=
  fun j hj => ⟨(World.cell?_of_block (a := ⟨g, j, none⟩) he).trans (h j hj).1, (World.frozen?_of_block (a := ⟨g, j, none⟩) he).trans (h j hj).2⟩
theorem RowIn.of {w w' : World} {lo hi : Nat} {a : Option Addr} {xs : List Int} (h : RowIn w lo hi a xs) (he : ∀ g, lo ≤ g → g < hi → w'.heap[g]? = w.heap[g]?) : RowIn w' lo hi a xs := by
  intro hn
  obtain ⟨g, rfl, h1, h2, h3⟩ := h hn
  exact ⟨g, rfl, h1, h2, h3.of (he g h1 h2)⟩
theorem RowIn.wide {w : World} {lo hi lo' hi' : Nat} {a : Option Addr} {xs : List Int} (h : RowIn w lo hi a xs) (h1 : lo' ≤ lo) (h2 : hi ≤ hi') : RowIn w lo' hi' a xs := by
  intro hn
  obtain ⟨g, rfl, a1, a2, a3⟩ := h hn
  exact ⟨g, rfl, by omega, by omega, a3⟩
theorem RowIn.isIn {w : World} {lo hi : Nat} {a : Option Addr} {cap : Nat} {xs : List Int} (h : RowIn w lo hi a xs) (hh : hi ≤ w.heap.size) : IntsIn w (.slice a xs.length cap) xs :=
  ⟨a, cap, rfl, fun hn => by obtain ⟨g, rfl, a1, a2, a3⟩ := h hn; exact ⟨g, rfl, by omega, a3⟩⟩
theorem IntsAt.rowIn {w : World} {B : Nat} {v : Value} {xs : List Int} (h : IntsAt w B v xs) : ∃ a cap, v = .slice a xs.length cap ∧ RowIn w B w.heap.size a xs := by
  rcases h.cases with ⟨rfl, rfl⟩ | ⟨g, cap, rfl, h1, h2, _, h3⟩
  · exact ⟨none, 0, rfl, fun hn => (hn rfl).elim⟩
  · exact ⟨_, cap, rfl, fun _ => ⟨g, rfl, h1, h2, h3⟩⟩

set_option maxRecDepth 100000 in
set_option maxHeartbeats 1000000 in
theorem markIntS_k (xs : List Int) (kk : Int) (lo hi : Nat) (a : Option Addr) (cap : Nat) (w : World) (h0 : 0 ≤ kk) (h1 : kk ≤ 4000000) (hh : hi ≤ w.heap.size) (hl : xs.length ≤ 1048576) (hx : RowIn w lo hi a xs) :
    Calls Tryd.prog 43 #[.slice a xs.length cap, .int .i64 kk] w fun e w' => e = .returned (.int .i64 (kk + (xs.length : Int))) ∧ Touch lo hi w w' ∧ (∀ b, (0 < xs.length → ∀ g, a = some ⟨g, 0, none⟩ → b ≠ g) → w'.heap[b]? = w.heap[b]?) ∧ RowIn w' lo hi a (markK kk xs.length) := by
  obtain ⟨L, hL⟩ : ∃ L, L = xs.length := ⟨_, rfl⟩
  rw [← hL] at hl ⊢
  have HL := Lib.hid hL
  have hl2 : (L : Int) ≤ 1048576 := by omega
  have H : Hid (0 < L → ∃ g, a = some ⟨g, 0, none⟩ ∧ lo ≤ g ∧ g < hi ∧ ∀ j, j < L → w.cell? ⟨g, j, none⟩ = some (.int .i64 (xs.getD j 0)) ∧ w.frozen? ⟨g, j, none⟩ = false) := Lib.hid (fun hp => by
    obtain ⟨g, e, a1, a2, a3⟩ := hx (by intro e; rw [e] at hL; simp at hL; omega)
    exact ⟨g, e, a1, a2, fun j hj => a3 j (by rw [← hL]; exact hj)⟩)
  clear hL hl hx
  go_enter Tryd.func43, Tryd.ntmps43
  go_wp2_with fail
  go_loopw [1, 5] (fun m i wr => ∃ k : Nat, k ≤ L ∧ i = .int .i64 k ∧ m = .int .i64 (kk + (k : Int)) ∧ Touch lo hi w wr ∧ (∀ b, (0 < L → ∀ g, a = some ⟨g, 0, none⟩ → b ≠ g) → wr.heap[b]? = w.heap[b]?) ∧ (0 < L → ∃ g, a = some ⟨g, 0, none⟩ ∧ lo ≤ g ∧ g < hi ∧ (∀ j, j < k → wr.cell? ⟨g, j, none⟩ = some (.int .i64 (kk + (j : Int)))) ∧ (∀ j, k ≤ j → j < L → wr.cell? ⟨g, j, none⟩ = some (.int .i64 (xs.getD j 0))) ∧ (∀ j, j < L → wr.frozen? ⟨g, j, none⟩ = false))) (fun _ i _ => L - (intOf i).toNat)
  case atStart =>
    refine ⟨0, Nat.zero_le _, rfl, by simp, Touch.refl _ _ _, fun _ _ => rfl, fun hp => ?_⟩
    obtain ⟨g, e, a1, a2, a3⟩ := H.out hp
    exact ⟨g, e, a1, a2, by simp, fun j _ hj => (a3 j hj).1, fun j hj => (a3 j hj).2⟩
  case round =>
    obtain ⟨k, hk, rfl, rfl, hb, hot, hh3⟩ := hrel
    have HOT := Lib.hid hot
    clear hot
    by_cases hlt : k < L
    · obtain ⟨g, rfl, g1, g2, h1', h2, h3⟩ := hh3 (by omega)
      have q := h2 k (Nat.le_refl k) hlt
      have qf := h3 k hlt
      have H1 := Lib.hid h1'
      have H2 := Lib.hid h2
      have H3 := Lib.hid h3
      have HG := Lib.hid (And.intro g1 g2)
      have hlt2 : (k : Int) < (L : Int) := by omega
      clear h1' h2 h3 hh3
      go_wp2
      refine ⟨⟨k + 1, hlt, by go_num, by go_num, hb.setCell (p := ⟨g, k, none⟩) HG.out.1 HG.out.2 _, ?_, fun _ => ⟨g, rfl, HG.out.1, HG.out.2, ?_, ?_, ?_⟩⟩, by simp [intOf]; omega⟩
      · intro b hb
        exact (Below.heap_setCell _ _ _ _ (hb (by omega) g rfl)).trans (HOT.out b hb)
      · intro j hj
        by_cases e : j = k
        · subst e; exact World.cell?_setCell_same' _ _ _ (by rw [q]; rfl)
        · exact (World.cell?_setCell_other _ _ _ _ (by simp; try omega)).trans (H1.out j (by omega))
      · intro j hj hj2
        exact (World.cell?_setCell_other _ _ _ _ (by simp; try omega)).trans (H2.out j (by omega) hj2)
      · intro j hj
        rw [World.frozen?_setCell]
        exact H3.out j hj
    · obtain rfl : k = L := by omega
      have hrow : RowIn wr lo hi a (markK kk k) := by
        intro hn
        have hk0 : 0 < k := by
          rcases Nat.eq_zero_or_pos k with e | e
          · subst e; exact (hn rfl).elim
          · exact e
        obtain ⟨g, e, g1, g2, a1, _, a3⟩ := hh3 hk0
        refine ⟨g, e, g1, g2, fun j hj => ?_⟩
        rw [markK_length] at hj
        rw [markK_at hj]
        exact ⟨a1 j hj, a3 j hj⟩
      have HROW := Lib.hid hrow
      have hlt2 : ¬ ((k : Int) < (k : Int)) := by omega
      clear hh3 hrow
      go_wp2
      go_ret
      exact ⟨rfl, hb, HOT.out, HROW.out⟩

set_option maxRecDepth 100000 in
set_option maxHeartbeats 1000000 in
theorem heldIntS_k (L : Nat) (kk : Int) (lo hi : Nat) (a : Option Addr) (cap : Nat) (w : World) (h0 : 0 ≤ kk) (h1 : kk ≤ 4000000) (hh : hi ≤ w.heap.size) (hl : L ≤ 1048576) (hx : RowIn w lo hi a (markK kk L)) :
    Calls Tryd.prog 44 #[.slice a L cap, .int .i64 kk] w fun e w' => e = .returned (.int .i64 (kk + (L : Int))) ∧ w = w' := by
  have hl2 : (L : Int) ≤ 1048576 := by omega
  have H : Hid (0 < L → ∃ g, a = some ⟨g, 0, none⟩ ∧ ∀ j, j < L → w.cell? ⟨g, j, none⟩ = some (.int .i64 (kk + (j : Int)))) := Lib.hid (fun hp => by
    obtain ⟨g, e, a1, a2, a3⟩ := hx (by intro e; have := markK_length kk L; rw [e] at this; simp at this; omega)
    exact ⟨g, e, fun j hj => by rw [(a3 j (by rw [markK_length]; exact hj)).1, markK_at hj]⟩)
  clear hl hx
  go_enter Tryd.func44, Tryd.ntmps44
  go_wp2_with fail
  go_loop [1, 5] (fun m i => ∃ k : Nat, k ≤ L ∧ i = .int .i64 k ∧ m = .int .i64 (kk + (k : Int))) (fun _ i => L - (intOf i).toNat)
  case atStart => exact ⟨0, Nat.zero_le _, rfl, by simp⟩
  case round =>
    obtain ⟨k, hk, rfl, rfl⟩ := hrel
    by_cases hlt : k < L
    · obtain ⟨g, rfl, q0⟩ := H.out (by omega)
      have q := q0 k hlt
      have hlt2 : (k : Int) < (L : Int) := by omega
      clear q0
      go_wp2
      exact ⟨⟨k + 1, hlt, by go_num, by go_num⟩, by simp [intOf]; omega⟩
    · obtain rfl : k = L := by omega
      have hlt2 : ¬ ((k : Int) < (k : Int)) := by omega
      go_wp2
      go_ret
      exact ⟨rfl, rfl⟩
end Go.Proofs.YtgobjobppajkbaaDoor
