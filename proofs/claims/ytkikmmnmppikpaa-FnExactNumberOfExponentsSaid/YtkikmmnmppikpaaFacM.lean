/-
  'maFactors', 'ExponentsOf' OF BOTH: rows of pairs.
-/
import Derived.Test.YtkikmmnmppikpaaFac
namespace Go.Proofs.Ytkikmmnmppikpaa
open Go.RowKit
set_option linter.unusedVariables false

/-- What a function that makes a row of pairs and a flag hands back. -/
def RetPr (rs : List (Int × Int)) (ok : Bool) (w : World) (e : Ending) (w' : World) : Prop := ∃ v, e = .returned (.tuple #[v, .bool ok]) ∧ PairsAt w' w.heap.size v rs ∧ Below w.heap.size w w'
theorem sq_small {q u : Int} (h2 : 2 ≤ q) (h : q * q ≤ u) (hu : u ≤ 1000000000000) : q ≤ 1000000 := by
  rcases (show q ≤ 1000000 ∨ 1000001 ≤ q by omega) with h3 | h3
  · exact h3
  · have := Int.mul_le_mul h3 h3 (by omega) (by omega)
    omega
theorem sq_ge {q : Int} (h2 : 2 ≤ q) : 2 * q ≤ q * q := Int.mul_le_mul_of_nonneg_right h2 (by omega)
theorem sq_le {q : Int} (h2 : 2 ≤ q) (h : q ≤ 1000001) : q * q ≤ 1000002000001 := by
  have := Int.mul_le_mul h h (by omega) (by omega)
  omega

set_option maxRecDepth 100000 in
set_option maxHeartbeats 4000000 in
theorem maFactors_any (n : Int) (w : World) (h1 : 1 ≤ n) (hn : n ≤ 1000000000000) :
    Calls Try.prog 79 #[.int .i64 n] w (RetPairs1 (fac 2 n) w) := by
  obtain ⟨i0, hi, hi0, hi1, hi2⟩ := info_parts info36
  have hF := fac_len h1 hn
  obtain ⟨F, hFF⟩ : ∃ F, fac 2 n = F := ⟨_, rfl⟩
  rw [hFF] at hF ⊢
  have HFF := Lib.hid hFF
  have HF := Lib.hid hF
  clear hF hFF
  go_enter Try.func79, Try.ntmps79
  go_wp2_with fail
  go_loopw [0, 3, 4] (fun x v p wr => ∃ (u q : Int) (l : List (Int × Int)), x = .int .i64 u ∧ p = .int .i64 q ∧ 1 ≤ u ∧ u ≤ 1000000000000 ∧ 2 ≤ q ∧ q ≤ 1000001 ∧ PairsAt wr w.heap.size v l ∧ l ++ fac q u = F ∧ Below w.heap.size w wr) (fun x _ p _ => (RowKit.intOf x + 1 - RowKit.intOf p).toNat)
  case atStart => exact ⟨n, 2, [], rfl, rfl, h1, hn, by omega, by omega, pairsAt_nil w w.heap.size, by rw [← HFF.out]; rfl, Below.refl _ _⟩
  case round =>
    obtain ⟨u, q, l, rfl, rfl, u1, un, q2, qn, hpa, hl, hbel⟩ := hrel
    have HB := Lib.hid hbel
    have hsz := hbel.size
    have HPA := Lib.hid hpa
    have HL := Lib.hid hl
    have HLL : Hid (l.length ≤ 40) := Lib.hid (by have := HF.out; rw [← hl] at this; simp at this; omega)
    have HQ := Lib.hid (sq_ge q2)
    have hqq := sq_le q2 qn
    have hqq0 : 0 ≤ q * q := by have := HQ.out; omega
    clear hpa hbel hl
    obtain ⟨qq, hqe⟩ : ∃ qq, q * q = qq := ⟨_, rfl⟩
    have HQE := Lib.hid hqe
    by_cases hs : q * q ≤ u
    · have hqs := sq_small q2 hs un
      have HS := Lib.hid hs
      rw [hqe] at hs hqq hqq0
      have hK := dvo_few q2 40 u1 (by have : (2 : Int) ^ 40 = 1099511627776 := by decide
                                      omega)
      have HLEFT := Lib.hid (dvo_left q2 u.natAbs (Nat.le_refl _) u1)
      have HFT := Lib.hid (fun h0 => fac_take q2 u1 HS.out h0)
      have HFS := Lib.hid (fun h0 => fac_skip q2 u1 HS.out h0)
      obtain ⟨D, hD⟩ : ∃ D, dvo q u = D := ⟨_, rfl⟩
      have HD0 := Lib.hid hD
      rw [hD] at hK HLEFT
      rw [hD] at HFT
      rw [hD] at HFS
      have HK := Lib.hid hK
      have hp0 : ¬ q = 0 := by omega
      clear hD hK
      go_wp2_with fail
      go_loop [0, 5] (fun x k => ∃ (a : Int) (j : Nat), x = .int .i64 a ∧ k = .int .i64 (j : Int) ∧ 1 ≤ a ∧ a ≤ u ∧ (dvo q a).1 = D.1 ∧ j + (dvo q a).2 = D.2) (fun x _ => (RowKit.intOf x).natAbs)
      case atStart => exact ⟨u, 0, rfl, rfl, u1, Int.le_refl _, by rw [HD0.out], by rw [HD0.out]; omega⟩
      case round =>
        obtain ⟨a, j, rfl, rfl, a1, an, e1, e2⟩ := hrel
        have HE1 := Lib.hid e1
        have HE2 := Lib.hid e2
        have hj : (j : Int) ≤ 40 := by have := HK.out; omega
        clear e1 e2
        by_cases hm : a % q = 0
        · obtain ⟨b1, b2, b3⟩ := ediv_shrink q2 (by omega) hm
          have HY := Lib.hid (dvo_yes q2 (show 0 < a by omega) hm)
          have HAB := Lib.hid (And.intro b1 b2)
          have hb0 : 0 ≤ a / q := by omega
          have hb1 : a / q ≤ 1000000000000 := by omega
          clear b1 b2 b3 HPA HB HLL
          go_wp2
          exact ⟨⟨a / q, j + 1, rfl, by go_num, by have := HAB.out; omega, by have := HAB.out; omega, by rw [← HE1.out, HY.out], by rw [← HE2.out, HY.out]; dsimp only; omega⟩, by have := HAB.out; simp only [RowKit.intOf]; omega⟩
        · have HN := Lib.hid (dvo_no (p := q) (n := a) hm)
          have eD1 : D.1 = a := by rw [← HE1.out, HN.out]
          have eD2 : D.2 = j := by rw [← HE2.out, HN.out]; simp
          have HLEFT2 := HLEFT.out
          rw [eD1, eD2] at HFT HLEFT2
          rw [eD1, eD2] at HFS
          have HL1 := Lib.hid HLEFT2
          clear HE1 HE2 HN HLEFT HLEFT2 HD0 HK eD1 eD2
          by_cases hj0 : 0 < j
          · have HT := Lib.hid (HFT.out hj0)
            have hj0' : 0 < (j : Int) := by omega
            clear HFT HFS
            obtain ⟨bs, h1, h2, h3, h4⟩ := HPA.out
            obtain ⟨n1, hn1⟩ : ∃ n1, l.length = n1 := ⟨_, rfl⟩
            rw [hn1] at h1 h2
            have HNL := Lib.hid hn1
            have H1 := Lib.hid h1
            have H234 := Lib.hid (And.intro h2 (And.intro h3 h4))
            have hlen : n1 ≤ 40 := by have := HLL.out; omega
            have hj3 : n1 + 1 ≤ maxLen := by unfold maxLen; omega
            clear h1 h2 h3 h4 hn1
            go_wp2_with (at_builtin; refine wpList_append_own _ rfl _ _ 41 rfl w.heap.size 24 i0 (.slice none 0 0) 1 24 Try.underlying41 hi hi0 hi1 hi2 rfl (by decide) _ _ _ rfl ((H1.out.alloc _).alloc _) ⟨wr.heap.size + 1, 0, none⟩ 1 1 [slP wr.heap.size] rfl rfl (fun j u hu => new_cell_at _ _ _ (by simp) hu) (by simp [Value.oneCell', slP]) hj3 (by omega) (by simp; omega) ?_; intro v5 w5 hown5 hgrow5 _)
            have hb3 : Below wr.heap.size wr ((wr.alloc (.cells #[.int .i64 q, .int .i64 (j : Int)] 3)).alloc (.cells #[slP wr.heap.size] 24)) := ((Below.refl _ wr).alloc (Nat.le_refl _) _).alloc (by simp) _
            have hpn : PairAt ((wr.alloc (.cells #[.int .i64 q, .int .i64 (j : Int)] 3)).alloc (.cells #[slP wr.heap.size] 24)) wr.heap.size (q, (j : Int)) :=
              (pair_new wr q (j : Int) 3).of (((Below.refl (wr.heap.size + 1) _).alloc (by simp) _).block _ (by omega))
            have hpr := pairs_snoc (rs := l) (by rw [HNL.out]; exact H1.out) (by rw [HNL.out]; exact H234.out.1) H234.out.2.1 H234.out.2.2 hb3 hsz (Nat.le_refl _) (by simp; omega) hpn (by rw [HNL.out]; exact hown5) hgrow5
            have hbel5 := (HB.out.trans (hb3.mono hsz)).grown hgrow5 (by simp; omega) (fun k e => (World.ownsRow.lt H1.out k e).1)
            exact ⟨⟨a, q + 1, l ++ [(q, (j : Int))], rfl, by go_num, a1, by omega, by omega, by omega, hpr, by rw [List.append_assoc, ← HL.out, HT.out]; rfl, hbel5⟩, by have := HQ.out; have := HS.out; simp only [RowKit.intOf]; omega⟩
          · have HT := Lib.hid (HFS.out hj0)
            have hj0' : ¬ 0 < (j : Int) := by omega
            have HPA2 := Lib.hid HPA.out
            clear HFT HFS HPA
            go_wp2_with fail
            exact ⟨⟨a, q + 1, l, rfl, by go_num, a1, by omega, by omega, by omega, HPA2.out, by rw [← HL.out, HT.out], HB.out⟩, by have := HQ.out; have := HS.out; simp only [RowKit.intOf]; omega⟩
    · have hs' : ¬ qq ≤ u := by rw [← hqe]; exact hs
      have hs2 : u < q * q := by omega
      by_cases hu : 1 < u
      · have HT := Lib.hid (fac_last hs2 hu)
        rw [hqe] at hqq hqq0
        clear hs hs2
        obtain ⟨bs, h1, h2, h3, h4⟩ := HPA.out
        obtain ⟨n1, hn1⟩ : ∃ n1, l.length = n1 := ⟨_, rfl⟩
        rw [hn1] at h1 h2
        have HNL := Lib.hid hn1
        have H1 := Lib.hid h1
        have H234 := Lib.hid (And.intro h2 (And.intro h3 h4))
        have hlen : n1 ≤ 40 := by have := HLL.out; omega
        have hj3 : n1 + 1 ≤ maxLen := by unfold maxLen; omega
        clear h1 h2 h3 h4 hn1
        go_wp2_with (at_builtin; refine wpList_append_own _ rfl _ _ 41 rfl w.heap.size 24 i0 (.slice none 0 0) 1 24 Try.underlying41 hi hi0 hi1 hi2 rfl (by decide) _ _ _ rfl ((H1.out.alloc _).alloc _) ⟨wr.heap.size + 1, 0, none⟩ 1 1 [slP wr.heap.size] rfl rfl (fun j u hu => new_cell_at _ _ _ (by simp) hu) (by simp [Value.oneCell', slP]) hj3 (by omega) (by simp; omega) ?_; intro v5 w5 hown5 hgrow5 _)
        have hb3 : Below wr.heap.size wr ((wr.alloc (.cells #[.int .i64 u, .int .i64 1] 3)).alloc (.cells #[slP wr.heap.size] 24)) := ((Below.refl _ wr).alloc (Nat.le_refl _) _).alloc (by simp) _
        have hpn : PairAt ((wr.alloc (.cells #[.int .i64 u, .int .i64 1] 3)).alloc (.cells #[slP wr.heap.size] 24)) wr.heap.size (u, 1) :=
          (pair_new wr u 1 3).of (((Below.refl (wr.heap.size + 1) _).alloc (by simp) _).block _ (by omega))
        have hpr := pairs_snoc (rs := l) (by rw [HNL.out]; exact H1.out) (by rw [HNL.out]; exact H234.out.1) H234.out.2.1 H234.out.2.2 hb3 hsz (Nat.le_refl _) (by simp; omega) hpn (by rw [HNL.out]; exact hown5) hgrow5
        have hbel5 := (HB.out.trans (hb3.mono hsz)).grown hgrow5 (by simp; omega) (fun k e => (World.ownsRow.lt H1.out k e).1)
        go_wp2_with fail
        go_ret
        refine ⟨_, rfl, ?_, hbel5⟩
        rw [← HL.out, HT.out]
        exact hpr
      · obtain rfl : u = 1 := by omega
        have HT := Lib.hid (fac_one q2)
        rw [hqe] at hqq hqq0
        clear hs hs2
        go_wp2_with fail
        go_ret
        refine ⟨_, rfl, ?_, HB.out⟩
        rw [← HL.out, HT.out, List.append_nil]
        exact HPA.out
end Go.Proofs.Ytkikmmnmppikpaa
