/-
  'ExponentsOf' OF BOTH.
-/
import Derived.Test.YtkikmmnmppikpaaFacM
namespace Go.Proofs.Ytkikmmnmppikpaa
open Go.RowKit
set_option linter.unusedVariables false

/-- What ExponentsOf tells. -/
def expL (n : Int) : List (Int × Int) := if manB n = true then fac 2 n else []
theorem expL_len (n : Int) : (expL n).length ≤ 300 := by
  unfold expL
  split
  · rename_i h
    have := manB_iff.1 h
    exact Nat.le_trans (fac_len this.1 this.2) (by omega)
  · simp
theorem ret_row {b b' : Bool} {v : Value} (h : b = b') : Ending.returned (.tuple #[v, .bool b]) = .returned (.tuple #[v, .bool b']) := by rw [h]

theorem fac_mea {a q u : Int} (h1 : a ≤ u) (h2 : q < u + 1) (hu : 1 < u) : ((a + 1 - (q + 1)).toNat + if 1 < a then 1 else 0) < (u + 1 - q).toNat + if 1 < u then 1 else 0 := by
  rw [if_pos hu]
  by_cases h : 1 < a
  · rw [if_pos h]; omega
  · rw [if_neg h]; omega
theorem fac_mea1 {q u : Int} (hu : 1 < u) : ((1 + 1 - (u + 1)).toNat + if (1 : Int) < 1 then 1 else 0) < (u + 1 - q).toNat + if 1 < u then 1 else 0 := by
  rw [if_pos hu, if_neg (by omega)]; omega

set_option maxRecDepth 100000 in
set_option maxHeartbeats 4000000 in
theorem iExponentsOf (n : Int) (w : World) : Calls Try.prog 98 #[.int .i64 n] w (RetPr (expL n) (manB n) w) := by
  have HM := Lib.hid (fun w => isMade_any n w)
  by_cases h : manB n = true
  case neg =>
    have h' : manB n = false := by simpa using h
    have HE : Hid (expL n = []) := Lib.hid (by rw [expL, if_neg h])
    rw [h'] at HM ⊢
    clear h h'
    go_enter Try.func98, Try.ntmps98
    go_wp2_with (go_at_call 51; refine (HM.out _).mono ?_; rintro e w1 ⟨rfl, rfl⟩)
    go_ret2
    exact ⟨_, rfl, by rw [HE.out]; exact pairsAt_nil _ _, Below.refl _ _⟩
  obtain ⟨i0, hi, hi0, hi1, hi2⟩ := info_parts info36
  have hn := manB_iff.1 h
  have HE : Hid (expL n = fac 2 n) := Lib.hid (by rw [expL, if_pos h])
  have hF := fac_len hn.1 hn.2
  obtain ⟨F, hFF⟩ : ∃ F, fac 2 n = F := ⟨_, rfl⟩
  rw [hFF] at hF HE
  have HFF := Lib.hid hFF
  have HF := Lib.hid hF
  rw [h] at HM ⊢
  have HN := Lib.hid hn
  clear h hF hFF hn
  go_enter Try.func98, Try.ntmps98
  go_wp2_with (go_at_call 51; refine (HM.out _).mono ?_; rintro e w1 ⟨rfl, rfl⟩)
  go_loopw [0, 4, 5] (fun x v p wr => ∃ (u q : Int) (l : List (Int × Int)), x = .int .i64 u ∧ p = .int .i64 q ∧ 1 ≤ u ∧ u ≤ 1000000000000 ∧ 2 ≤ q ∧ (u ≤ 1 ∨ q ≤ 1000001) ∧ PairsAt wr w.heap.size v l ∧ l ++ fac q u = F ∧ Below w.heap.size w wr) (fun x _ p _ => (RowKit.intOf x + 1 - RowKit.intOf p).toNat + (if 1 < RowKit.intOf x then 1 else 0))
  case atStart => exact ⟨n, 2, [], rfl, rfl, HN.out.1, HN.out.2, by omega, by omega, pairsAt_nil w w.heap.size, by rw [← HFF.out]; rfl, Below.refl _ _⟩
  case round =>
    obtain ⟨u, q, l, rfl, rfl, u1, un, q2, qn, hpa, hl, hbel⟩ := hrel
    have HB := Lib.hid hbel
    have hsz := hbel.size
    have HPA := Lib.hid hpa
    have HL := Lib.hid hl
    have HLL : Hid (l.length ≤ 40) := Lib.hid (by have := HF.out; rw [← hl] at this; simp at this; omega)
    clear hpa hbel hl HM
    by_cases hu : 1 < u
    · have qn : q ≤ 1000001 := by omega
      have HQ := Lib.hid (sq_ge q2)
      have hqq := sq_le q2 qn
      have hqq0 : 0 ≤ q * q := by have := HQ.out; omega
      by_cases hs : q * q ≤ u
      · have hqs := sq_small q2 hs un
        have HS := Lib.hid hs
        have hs' : ¬ u < q * q := by omega
        have HDV := Lib.hid (fun w => dividedOut_any u q w q2 (by omega) u1 un)
        have HLEFT := Lib.hid (dvo_left q2 u.natAbs (Nat.le_refl _) u1)
        have HFT := Lib.hid (fun h0 => fac_take q2 u1 HS.out h0)
        have HFS := Lib.hid (fun h0 => fac_skip q2 u1 HS.out h0)
        obtain ⟨⟨a, j⟩, hD⟩ : ∃ D, dvo q u = D := ⟨_, rfl⟩
        rw [hD] at HDV HLEFT
        rw [hD] at HFT
        rw [hD] at HFS
        dsimp only at HDV HLEFT HFT HFS
        obtain ⟨qq, hqe⟩ : ∃ qq, q * q = qq := ⟨_, rfl⟩
        rw [hqe] at hqq hqq0 hs'
        have HQE := Lib.hid hqe
        clear hD hs
        by_cases hj0 : 0 < j
        · have HT := Lib.hid (HFT.out hj0)
          have hj0' : 0 < (j : Int) := by omega
          clear HFT HFS
          go_wp2_with fail
          refine (HDV.out _).mono ?_
          rintro e w1 ⟨rfl, rfl⟩
          obtain ⟨bs, h1, h2, h3, h4⟩ := HPA.out
          obtain ⟨n1, hn1⟩ : ∃ n1, l.length = n1 := ⟨_, rfl⟩
          rw [hn1] at h1 h2
          have HNL := Lib.hid hn1
          have H1 := Lib.hid h1
          have H234 := Lib.hid (And.intro h2 (And.intro h3 h4))
          have hlen : n1 ≤ 40 := by have := HLL.out; omega
          have hj3 : n1 + 1 ≤ maxLen := by unfold maxLen; omega
          clear h1 h2 h3 h4 hn1
          go_wp2_with (at_builtin; refine wpList_append_own _ rfl _ _ 41 rfl w.heap.size 24 i0 (.slice none 0 0) 1 24 Try.underlying41 hi hi0 hi1 hi2 rfl (by decide) _ _ _ rfl ((H1.out.alloc _).alloc _) ⟨wr.heap.size + 1, 0, none⟩ 1 1 [slP wr.heap.size] rfl rfl (fun j u hu => new_cell_at _ _ _ (by simp) hu) (by simp [Value.oneCell', slP]) hj3 (by omega) (by simp; omega) ?_; intro v5 w5 hown5 hgrow5 _)
          have hb3 : Below wr.heap.size wr ((wr.alloc (.cells #[.int .i64 q, .int .i64 (j : Int)] 3)).alloc (.cells #[slP wr.heap.size] 24)) := ((Below.refl _ wr).alloc (Nat.le_refl _) _).alloc (by simp) _
          have hpn : PairAt ((wr.alloc (.cells #[.int .i64 q, .int .i64 (j : Int)] 3)).alloc (.cells #[slP wr.heap.size] 24)) wr.heap.size (q, (j : Int)) :=
            (pair_new wr q (j : Int) 3).of (((Below.refl (wr.heap.size + 1) _).alloc (by simp) _).block _ (by omega))
          have hpr := pairs_snoc (rs := l) (by rw [HNL.out]; exact H1.out) (by rw [HNL.out]; exact H234.out.1) H234.out.2.1 H234.out.2.2 hb3 hsz (Nat.le_refl _) (by simp; omega) hpn (by rw [HNL.out]; exact hown5) hgrow5
          have hbel5 := (HB.out.trans (hb3.mono hsz)).grown hgrow5 (by simp; omega) (fun k e => (World.ownsRow.lt H1.out k e).1)
          exact ⟨⟨a, q + 1, l ++ [(q, (j : Int))], rfl, by go_num, HLEFT.out.1, by have := HLEFT.out.2.1; omega, by omega, by omega, hpr, by rw [List.append_assoc, ← HL.out, HT.out]; rfl, hbel5⟩, by have h8 : q < u + 1 := by have := HQ.out; have := HS.out; omega
                                                                                                                                                                                                       exact fac_mea HLEFT.out.2.1 h8 hu⟩
        · have HT := Lib.hid (HFS.out hj0)
          have hj0' : ¬ 0 < (j : Int) := by omega
          clear HFT HFS
          go_wp2_with fail
          refine (HDV.out _).mono ?_
          rintro e w1 ⟨rfl, rfl⟩
          have HPA2 := Lib.hid HPA.out
          clear HPA
          go_wp2_with fail
          exact ⟨⟨a, q + 1, l, rfl, by go_num, HLEFT.out.1, by have := HLEFT.out.2.1; omega, by omega, by omega, HPA2.out, by rw [← HL.out, HT.out], HB.out⟩, by have h8 : q < u + 1 := by have := HQ.out; have := HS.out; omega
                                                                                                                                                                 exact fac_mea HLEFT.out.2.1 h8 hu⟩
      · have HS2 := Lib.hid (show u < q * q by omega)
        have hs' : u < q * q := by omega
        have HT := Lib.hid (fac_last HS2.out hu)
        have HDV := Lib.hid (fun w => dividedOut_any u u w (by omega) (by omega) u1 un)
        rw [dvo_self (by omega)] at HDV
        have HFO := Lib.hid (fac_one (p := u + 1) (by omega))
        have e1 : ((1 : Nat) : Int) = 1 := rfl
        simp only [e1] at HDV
        clear e1
        obtain ⟨qq, hqe⟩ : ∃ qq, q * q = qq := ⟨_, rfl⟩
        rw [hqe] at hqq hqq0 hs'
        have HQE := Lib.hid hqe
        clear hs
        go_wp2_with fail
        refine (HDV.out _).mono ?_
        rintro e w1 ⟨rfl, rfl⟩
        obtain ⟨bs, h1, h2, h3, h4⟩ := HPA.out
        obtain ⟨n1, hn1⟩ : ∃ n1, l.length = n1 := ⟨_, rfl⟩
        rw [hn1] at h1 h2
        have HNL := Lib.hid hn1
        have H1 := Lib.hid h1
        have H234 := Lib.hid (And.intro h2 (And.intro h3 h4))
        have hlen : n1 ≤ 40 := by have := HLL.out; omega
        have hj3 : n1 + 1 ≤ maxLen := by unfold maxLen; omega
        clear h1 h2 h3 h4 hn1
        go_wp2_with (at_builtin; refine wpList_append_own _ rfl _ _ 41 rfl w.heap.size 24 i0 (.slice none 0 0) 1 24 Try.underlying41 hi hi0 hi1 hi2 rfl (by decide) _ _ _ rfl ((H1.out.alloc _).alloc _) ⟨wr.heap.size + 1, 0, none⟩ 1 1 [slP wr.heap.size] rfl rfl (fun j u hu => new_cell_at _ _ _ (by simp) hu) (by simp [Value.oneCell', slP]) hj3 (by omega) (by simp; omega) ?_; intro v5 w5 hown5 hgrow5 _)
        have hb3 : Below wr.heap.size wr ((wr.alloc (.cells #[.int .i64 u, .int .i64 1] 3)).alloc (.cells #[slP wr.heap.size] 24)) := ((Below.refl _ wr).alloc (Nat.le_refl _) _).alloc (by simp) _
        have hpn : PairAt ((wr.alloc (.cells #[.int .i64 u, .int .i64 1] 3)).alloc (.cells #[slP wr.heap.size] 24)) wr.heap.size (u, 1) :=
          (pair_new wr u 1 3).of (((Below.refl (wr.heap.size + 1) _).alloc (by simp) _).block _ (by omega))
        have hpr := pairs_snoc (rs := l) (by rw [HNL.out]; exact H1.out) (by rw [HNL.out]; exact H234.out.1) H234.out.2.1 H234.out.2.2 hb3 hsz (Nat.le_refl _) (by simp; omega) hpn (by rw [HNL.out]; exact hown5) hgrow5
        have hbel5 := (HB.out.trans (hb3.mono hsz)).grown hgrow5 (by simp; omega) (fun k e => (World.ownsRow.lt H1.out k e).1)
        exact ⟨⟨1, u + 1, l ++ [(u, 1)], rfl, by go_num, by omega, by omega, by omega, by omega, hpr, by rw [← HL.out, HT.out, HFO.out, List.append_nil], hbel5⟩, fac_mea1 hu⟩
    · obtain rfl : u = 1 := by omega
      have HT := Lib.hid (fac_one q2)
      go_wp2_with fail
      go_ret2
      refine ⟨_, rfl, ?_, HB.out⟩
      rw [HE.out, ← HL.out, HT.out, List.append_nil]
      exact HPA.out

end Go.Proofs.Ytkikmmnmppikpaa
