/-
  'reRecords' of the model; 'eqIntSS', 'markIntSS', 'heldIntSS' of the laws at rows of pairs.
-/
import Derived.Test.YtjcpdlamgjpmmafPairs
import Derived.Deep.RegionWith
namespace Go.Proofs.Ytjcpdlamgjpmmaf
open Go.RowKit
set_option linter.unusedVariables false

set_option maxRecDepth 100000 in
set_option maxHeartbeats 4000000 in
theorem reRecords_any (xs : List Int) (v : Value) (w : World) (hl : xs.length ≤ 300) (hm : ∀ j, j < xs.length → -1 ≤ atL xs j ∧ atL xs j ≤ 1000000000000) (h : IntsIn w v xs) :
    Calls Try.prog 24 #[v] w (RetPairs1 (recK (atL xs) xs.length) w) := by
  obtain ⟨i0, hi, hi0, hi1, hi2⟩ := info_parts info36
  obtain ⟨a, cap, rfl, hx⟩ := h.at'
  obtain ⟨f, hf⟩ : ∃ f, atL xs = f := ⟨_, rfl⟩
  obtain ⟨K, hK⟩ : ∃ K, xs.length = K := ⟨_, rfl⟩
  rw [hf, hK] at hm hx ⊢
  rw [hK] at hl
  have hK2 : (K : Int) ≤ 300 := by omega
  have HX := Lib.hid hx
  have HM := Lib.hid hm
  clear hx hm hl hf hK h
  go_enter Try.func24, Try.ntmps24
  go_wp2_with fail
  go_loopw [3, 4, 9] (fun v b i wr => ∃ j : Nat, j ≤ K ∧ i = .int .i64 j ∧ b = .int .i64 (bst (recK f j)) ∧ PairsAt wr w.heap.size v (recK f j) ∧ Below w.heap.size w wr) (fun _ _ i _ => K - (RowKit.intOf i).toNat)
  case atStart => exact ⟨0, Nat.zero_le _, rfl, rfl, pairsAt_nil w w.heap.size, Below.refl _ _⟩
  case round =>
    obtain ⟨j, hj, rfl, rfl, hpa, hbel⟩ := hrel
    have HB := Lib.hid hbel
    have hsz := hbel.size
    have HPA := Lib.hid hpa
    clear hpa
    by_cases hlt : j < K
    · obtain ⟨g, rfl, hg, q0⟩ := HX.out j hlt
      have q : wr.cell? ⟨g, j, none⟩ = some (.int .i64 (f j)) := (hbel.cell (p := ⟨g, j, none⟩) hg).trans q0
      have hlt2 : (j : Int) < (K : Int) := by omega
      have HNEW := Lib.hid (fun h => recK_new (a := f) (k := j) (fun m hm => (HM.out m (by omega)).1) h)
      have HOLD := Lib.hid (fun h => recK_old (a := f) (k := j) (fun m hm => (HM.out m (by omega)).1) h)
      have HSN := Lib.hid (fun h => (congrArg bst (HNEW.out h)).trans (bst_snoc _ _))
      have HSO := Lib.hid (fun h => congrArg bst (HOLD.out h))
      have hlen : (recK f j).length ≤ 300 := Nat.le_trans (recK_len f j) (by omega)
      obtain ⟨x, hx⟩ : ∃ x, f j = x := ⟨_, rfl⟩
      obtain ⟨bb, hbb⟩ : ∃ bb, bst (recK f j) = bb := ⟨_, rfl⟩
      rw [hx, hbb] at HNEW HSN
      rw [hx, hbb] at HOLD HSO
      rw [hx] at q
      rw [hbb]
      clear hx hbb q0 hbel
      by_cases hgt : bb < x
      · have HN := Lib.hid (HNEW.out hgt)
        have HS := Lib.hid (HSN.out hgt)
        obtain ⟨bs, h1, h2, h3, h4⟩ := HPA.out
        obtain ⟨n, hn⟩ : ∃ n, (recK f j).length = n := ⟨_, rfl⟩
        rw [hn] at h1 h2 hlen
        have HNL := Lib.hid hn
        have H1 := Lib.hid h1
        have H234 := Lib.hid (And.intro h2 (And.intro h3 h4))
        have hj3 : n + 1 ≤ maxLen := by unfold maxLen; omega
        clear h1 h2 h3 h4 hn HPA HNEW HOLD HSN HSO
        go_wp2_with (at_builtin; refine wpList_append_own _ rfl _ _ 28 rfl w.heap.size 32 i0 (.slice none 0 0) 1 24 Try.underlying28 hi hi0 hi1 hi2 rfl (by decide) _ _ _ rfl ((H1.out.alloc _).alloc _) ⟨wr.heap.size + 1, 0, none⟩ 1 1 [slP wr.heap.size] rfl rfl (fun j u hu => new_cell_at _ _ _ (by simp) hu) (by simp [Value.oneCell', slP]) hj3 (by omega) (by simp; omega) ?_; intro v5 w5 hown5 hgrow5 _)
        have hb3 : Below wr.heap.size wr ((wr.alloc (.cells #[.int .i64 ((j : Int) + 1), .int .i64 x] 3)).alloc (.cells #[slP wr.heap.size] 32)) := ((Below.refl _ wr).alloc (Nat.le_refl _) _).alloc (by simp) _
        have hpn : PairAt ((wr.alloc (.cells #[.int .i64 ((j : Int) + 1), .int .i64 x] 3)).alloc (.cells #[slP wr.heap.size] 32)) wr.heap.size ((j : Int) + 1, x) :=
          (pair_new wr ((j : Int) + 1) x 3).of (((Below.refl (wr.heap.size + 1) _).alloc (by simp) _).block _ (by omega))
        have hpr := pairs_snoc (rs := recK f j) (by rw [HNL.out]; exact H1.out) (by rw [HNL.out]; exact H234.out.1) H234.out.2.1 H234.out.2.2 hb3 hsz (Nat.le_refl _) (by simp; omega) hpn (by rw [HNL.out]; exact hown5) hgrow5
        exact ⟨⟨j + 1, hlt, by go_num, by rw [HS.out], by rw [HN.out]; exact hpr, (HB.out.trans (hb3.mono hsz)).grown hgrow5 (by simp; omega) (fun k e => (World.ownsRow.lt H1.out k e).1)⟩, by simp [RowKit.intOf]; omega⟩
      · have HN := Lib.hid (HOLD.out hgt)
        have HS := Lib.hid (HSO.out hgt)
        clear HNEW HOLD HSN HSO
        go_wp2_with fail
        exact ⟨⟨j + 1, hlt, by go_num, by rw [HS.out], by rw [HN.out]; exact HPA.out, HB.out⟩, by simp [RowKit.intOf]; omega⟩
    · obtain rfl : j = K := by omega
      have hlt2 : ¬ ((j : Int) < (j : Int)) := by omega
      clear hbel
      go_wp2_with fail
      go_ret
      exact ⟨_, rfl, HPA.out, HB.out⟩

theorem PairAt.row {w : World} {b : Nat} {r : Int × Int} (h : PairAt w b r) : IntRow w b [r.1, r.2] := by
  intro j hj
  match j, hj with
  | 0, _ => exact ⟨h.1, h.2.2.1⟩
  | 1, _ => exact ⟨h.2.1, h.2.2.2⟩
end Go.Proofs.Ytjcpdlamgjpmmaf
