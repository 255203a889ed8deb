/-
  'LongestRun' of both.
-/
import Derived.Test.YtponmblponfdaaaRecN
import Derived.Test.YtponmblponfdaaaMean
namespace Go.Proofs.Ytponmblponfdaaa
open Go.RowKit
set_option linter.unusedVariables false

/-- What LongestRun comes to. -/
def runL (xs : List Int) : Int × Int × Bool := ((lastR (runK (atL xs) xs.length)).1, (lastR (runK (atL xs) xs.length)).2, anyR (runK (atL xs) xs.length))

set_option maxRecDepth 100000 in
set_option maxHeartbeats 4000000 in
theorem iLongestRun (t p k : Int) (w : World) :
    Calls Try.prog 16 #[.agg #[.int .i64 t, .int .i64 p], .int .i64 k] w (Ret3 (runL (tabA needN t p k)) w) := by
  have HL := Lib.hid (fun w => iStepsList t p k w)
  have hsm := small_need t p k
  have hlen := tabA_len needN t p k
  have HB0 := Lib.hid ((Below.refl _ w).alloc (Nat.le_refl _) (.cells #[.int .i64 t, .int .i64 p] 25))
  have hef : ∀ (args : Array Value) (w : World), (callFunc 65 args).run Try.prog w = .ok (.enter 65 args) w := enters_of Try.func65 (by kernel_rfl) rfl
  obtain ⟨xs, hxs⟩ : ∃ xs, tabA needN t p k = xs := ⟨_, rfl⟩
  rw [hxs] at HL hsm hlen ⊢
  clear hxs
  go_enter Try.func16, Try.ntmps16
  go_wp2_with fail
  refine (HL.out _).mono ?_
  rintro e w1 ⟨v, rfl, hrow, hb1⟩
  have HB := Lib.hid (HB0.out.trans (hb1.mono (by simp)))
  obtain ⟨a, cap, rfl, hx⟩ := hrow.isIn.at'
  have HR0 : Hid (runL xs = ((lastR (runK (atL xs) xs.length)).1, (lastR (runK (atL xs) xs.length)).2, anyR (runK (atL xs) xs.length))) := Lib.hid rfl
  obtain ⟨f, hf⟩ : ∃ f, atL xs = f := ⟨_, rfl⟩
  obtain ⟨K, hK⟩ : ∃ K, xs.length = K := ⟨_, rfl⟩
  unfold Small at hsm
  rw [hf, hK] at hsm hx HR0
  rw [hK] at hlen ⊢
  have HSM := Lib.hid hsm
  have HX := Lib.hid hx
  have hK2 : (K : Int) ≤ 300 := by omega
  clear hb1 hrow hf hK hsm hx hlen
  go_wp2_with fail
  refine (keeper_any _).mono ?_
  rintro e w2 ⟨rfl, hw2⟩
  have hk2 : KeepAt w2 w1.heap.size (.slice none 0 0) [] := by rw [hw2]; exact keepAt_new w1
  have hb2 : Below w1.heap.size w1 w2 := by rw [hw2]; exact ((Below.refl _ w1).alloc (Nat.le_refl _) _).alloc (by simp) _
  have HK2 := Lib.hid hk2
  have HB2 := Lib.hid hb2
  clear hk2 hb2 hw2
  go_wp2_with fail
  go_loopw [10, 22] (fun b i wr => ∃ j : Nat, j ≤ K ∧ i = .int .i64 j ∧ b = .int .i64 (fb f j : Int) ∧ (∃ v, KeepAt wr w1.heap.size v (runK f j)) ∧ Below w1.heap.size w1 wr) (fun _ i _ => K - (RowKit.intOf i).toNat)
  case atStart => exact ⟨0, Nat.zero_le _, rfl, rfl, ⟨_, HK2.out⟩, HB2.out⟩
  case round =>
    obtain ⟨j, hj, rfl, rfl, ⟨v, hkeep⟩, hbel⟩ := hrel
    have HKEEP := Lib.hid hkeep
    have HBR := Lib.hid hbel
    have hsz := hkeep.sz
    clear hkeep hbel
    by_cases hlt : j < K
    · obtain ⟨g, rfl, hg, q0⟩ := HX.out j hlt
      have hfl := fb_le f j
      have hfl2 := fb_lt f j
      obtain ⟨g', eg, _, q1⟩ := HX.out (fb f j) (by omega)
      obtain rfl : g = g' := by injection eg with e1; injection e1
      have q : wr.cell? ⟨g, j, none⟩ = some (.int .i64 (f j)) := (HBR.out.cell (p := ⟨g, j, none⟩) hg).trans q0
      have q' : wr.cell? ⟨g, fb f j, none⟩ = some (.int .i64 (f (fb f j))) := (HBR.out.cell (p := ⟨g, fb f j, none⟩) hg).trans q1
      have hlt2 : (j : Int) < (K : Int) := by omega
      have HOK := Lib.hid (runK_ok f j)
      have HLEN : Hid ((runK f j).length ≤ 1000) := Lib.hid (by have := runK_len f j; omega)
      have hmj := HSM.out j hlt
      have HNONE := Lib.hid (fun (h : f j = -1) => runK_none h)
      have HHAS := Lib.hid (fun (h : f j ≠ -1) => runK_has h)
      have HFB := Lib.hid (fb_succ f j)
      obtain ⟨b', hb'⟩ : ∃ b', fb f (j + 1) = b' := ⟨_, rfl⟩
      rw [hb'] at HHAS HFB hfl2
      have HB' := Lib.hid hb'
      obtain ⟨b, hb⟩ : ∃ b, fb f j = b := ⟨_, rfl⟩
      rw [hb] at q' HFB hfl ⊢
      have hbK : (b : Int) < (K : Int) := by omega
      have hbj : (b : Int) ≤ (j : Int) := by omega
      obtain ⟨y, hy⟩ : ∃ y, f b = y := ⟨_, rfl⟩
      obtain ⟨x, hx⟩ : ∃ x, f j = x := ⟨_, rfl⟩
      rw [hx] at q hmj HNONE HHAS HFB
      rw [hy] at q' HFB
      clear hb hb' hx hy q0 q1 eg
      have hbj' : (b' : Int) ≤ (j : Int) := by omega
      by_cases hxy : x = y
      · have hbb : b' = b := by rw [HFB.out, if_pos hxy]
        have hxy1 : (x != y) = false := by simpa using hxy
        subst hbb
        clear hxy HFB
        by_cases hx1 : x = -1
        · have HN := Lib.hid (HNONE.out hx1)
          have hx2 : (x != -1) = false := by simpa using hx1
          clear hx1 HNONE HHAS
          go_wp2_with fail
          exact ⟨⟨j + 1, hlt, by go_num, by rw [HB'.out], ⟨v, by rw [HN.out]; exact HKEEP.out⟩, HBR.out⟩, by simp [RowKit.intOf]; omega⟩
        · have HN := Lib.hid (HHAS.out hx1)
          have hx2 : (x != -1) = true := by simpa using hx1
          clear hx1 HNONE HHAS
          go_wp2_with fail
          refine (keep_one w1.heap.size wr.heap.size 1 v (runK f j) ((b' : Int) + 1, (j : Int) + 1 - (b' : Int)) _ (HKEEP.out.below ((Below.refl _ wr).alloc (Nat.le_refl _) _)) HOK.out (by dsimp only; omega) HLEN.out (by go_simp) (by go_simp) (by simp)).mono ?_
          rintro e w3 ⟨⟨v0, rfl⟩, hb3, v', hk3⟩
          have HK3 := Lib.hid hk3
          have HB3 := Lib.hid ((HBR.out.alloc (by omega) _).trans hb3)
          clear hk3 hb3
          go_wp2_with fail
          exact ⟨⟨j + 1, hlt, by go_num, by rw [HB'.out], ⟨v', by rw [HN.out]; exact HK3.out⟩, HB3.out⟩, by simp [RowKit.intOf]; omega⟩
      · have hbb : b' = j := by rw [HFB.out, if_neg hxy]
        have hxy1 : (x != y) = true := by simpa using hxy
        subst hbb
        clear hxy HFB
        by_cases hx1 : x = -1
        · have HN := Lib.hid (HNONE.out hx1)
          have hx2 : (x != -1) = false := by simpa using hx1
          clear hx1 HNONE HHAS
          go_wp2_with fail
          exact ⟨⟨b' + 1, hlt, by go_num, by rw [HB'.out], ⟨v, by rw [HN.out]; exact HKEEP.out⟩, HBR.out⟩, by simp [RowKit.intOf]; omega⟩
        · have HN := Lib.hid (HHAS.out hx1)
          have hx2 : (x != -1) = true := by simpa using hx1
          clear hx1 HNONE HHAS
          go_wp2_with fail
          refine (keep_one w1.heap.size wr.heap.size 1 v (runK f b') ((b' : Int) + 1, (b' : Int) + 1 - (b' : Int)) _ (HKEEP.out.below ((Below.refl _ wr).alloc (Nat.le_refl _) _)) HOK.out (by dsimp only; omega) HLEN.out (by go_simp) (by go_simp) (by simp)).mono ?_
          rintro e w3 ⟨⟨v0, rfl⟩, hb3, v', hk3⟩
          have HK3 := Lib.hid hk3
          have HB3 := Lib.hid ((HBR.out.alloc (by omega) _).trans hb3)
          clear hk3 hb3
          go_wp2_with fail
          exact ⟨⟨b' + 1, hlt, by go_num, by rw [HB'.out], ⟨v', by rw [HN.out]; exact HK3.out⟩, HB3.out⟩, by simp [RowKit.intOf]; omega⟩
    · obtain rfl : j = K := by omega
      have hlt2 : ¬ ((j : Int) < (j : Int)) := by omega
      have HLr := Lib.hid (fun a w h => lastRecord_any (runK f j) a (runK f j).length w (by have := runK_len f j; omega) (runK_ok f j) h)
      go_wp2_with fail
      refine (keep_none w1.heap.size v (runK f j) _ HKEEP.out).mono ?_
      rintro e w3 ⟨⟨a3, rfl, h3⟩, rfl⟩
      have H3 := Lib.hid h3
      clear h3
      go_wp2_with fail
      refine (HLr.out _ _ H3.out).mono ?_
      rintro e w4 ⟨rfl, hb4⟩
      have HB4 := Lib.hid ((HB.out.trans (HBR.out.mono HB.out.size)).trans (hb4.mono (Nat.le_trans HB.out.size HBR.out.size)))
      clear hb4
      go_wp2_with fail
      go_ret3
      exact ⟨ret_3 HR0.out, HB4.out⟩

set_option maxRecDepth 100000 in
set_option maxHeartbeats 4000000 in
theorem sLongestRun (t p k : Int) (w : World) :
    Calls Try.prog 17 #[.agg #[.int .i64 t, .int .i64 p], .int .i64 k] w (Ret3 (runL (tabA needN t p k)) w) := by
  have HMM := Lib.hid (fun w => reLimit_any t p k w)
  have hsm := small_need t p k
  cases hask : askL t p k
  · have HY : Hid (tabA needN t p k = []) := Lib.hid (tabA_no hask)
    rw [hask] at HMM
    clear hask hsm
    go_enter Try.func17, Try.ntmps17
    go_wp2_with fail
    refine (HMM.out _).mono ?_
    rintro e w1 ⟨rfl, hb1⟩
    obtain ⟨c0, c1, hz, hb⟩ := map_block hb1
    clear hb1
    go_wp2_with fail
    go_ret3
    exact ⟨by rw [HY.out]; rfl, hb⟩
  · obtain ⟨K0, rfl, hK1, hK, hg⟩ := askL_yes hask
    have hY := tabA_yes (g := needN) hask
    have HL := Lib.hid (fun w => reList_any t p K0 w hg hK)
    rw [← hY] at HL
    have hlen : (tabA needN t p K0).length ≤ 300 := tabA_len _ _ _ _
    obtain ⟨xs, hxs⟩ : ∃ xs, tabA needN t p K0 = xs := ⟨_, rfl⟩
    rw [hxs] at HL hsm hlen ⊢
    rw [hask] at HMM
    clear hask hg hxs hY
    go_enter Try.func17, Try.ntmps17
    go_wp2_with fail
    refine (HMM.out _).mono ?_
    rintro e w1 ⟨rfl, hb1⟩
    obtain ⟨c0, c1, hz, hb⟩ := map_block hb1
    clear hb1
    go_wp2_with fail
    refine (HL.out _).mono ?_
    rintro e w2 ⟨v, rfl, hrow, hb2⟩
    have HB := Lib.hid (hb.trans (hb2.mono (Nat.le_of_lt hz)))
    obtain ⟨a, cap, rfl, hx⟩ := hrow.isIn.at'
    have HR0 : Hid (runL xs = ((lastR (runK (atL xs) xs.length)).1, (lastR (runK (atL xs) xs.length)).2, anyR (runK (atL xs) xs.length))) := Lib.hid rfl
    obtain ⟨f, hf⟩ : ∃ f, atL xs = f := ⟨_, rfl⟩
    obtain ⟨K, hKK⟩ : ∃ K, xs.length = K := ⟨_, rfl⟩
    unfold Small at hsm
    rw [hf, hKK] at hsm hx HR0
    rw [hKK] at hlen ⊢
    have HSM := Lib.hid hsm
    have HX := Lib.hid hx
    have hK2 : (K : Int) ≤ 300 := by omega
    clear hb2 hrow hf hKK hsm hx hlen hb c0 c1 hz
    go_wp2_with fail
    go_loop [8, 9, 10, 22] (fun b m n i => ∃ j : Nat, j ≤ K ∧ i = .int .i64 j ∧ b = .int .i64 (lastR (runK f j)).1 ∧ m = .int .i64 (lastR (runK f j)).2 ∧ n = .int .i64 (nowK f j : Int)) (fun _ _ _ i => K - (RowKit.intOf i).toNat)
    case atStart => exact ⟨0, Nat.zero_le _, rfl, rfl, rfl, rfl⟩
    case round =>
      obtain ⟨j, hj, rfl, rfl, rfl, rfl⟩ := hrel
      by_cases hlt : j < K
      · obtain ⟨g, rfl, hg, q⟩ := HX.out j hlt
        have hmj := HSM.out j hlt
        have hlt2 : (j : Int) < (K : Int) := by omega
        have HMORE := Lib.hid (fun h => run_more (a := f) (k := j) hmj.1 h)
        have HLESS := Lib.hid (fun h => run_less (a := f) (k := j) hmj.1 h)
        have hnl := nowK_le f j
        have hnl2 := nowK_le f (j + 1)
        have HNS := Lib.hid (nowK_succ f j)
        obtain ⟨n', hn'⟩ : ∃ n', nowK f (j + 1) = n' := ⟨_, rfl⟩
        obtain ⟨n, hn⟩ : ∃ n, nowK f j = n := ⟨_, rfl⟩
        obtain ⟨b, hb⟩ : ∃ b, (lastR (runK f j)).1 = b := ⟨_, rfl⟩
        obtain ⟨m, hm⟩ : ∃ m, (lastR (runK f j)).2 = m := ⟨_, rfl⟩
        rw [hn'] at HMORE HLESS HNS hnl2
        rw [hn] at HNS hnl
        rw [hm] at HMORE HLESS
        have HN' := Lib.hid hn'
        have HBM := Lib.hid (And.intro hb hm)
        rw [hb, hm, hn]
        have hn1 : (n : Int) ≤ 300 := by omega
        have hn2 : (n' : Int) ≤ (j : Int) + 1 := by omega
        have hq' : 0 < j → w2.cell? ⟨g, j - 1, none⟩ = some (.int .i64 (f (j - 1))) := fun h0 => by
          obtain ⟨g', eg, _, q1⟩ := HX.out (j - 1) (by omega)
          obtain rfl : g = g' := by injection eg with e1; injection e1
          exact q1
        have HQ := Lib.hid hq'
        obtain ⟨x, hx⟩ : ∃ x, f j = x := ⟨_, rfl⟩
        rw [hx] at q hmj HNS
        clear hn' hn hb hm hq' hx
        -- the rest: from the model's count on
        have hrest : Hid ((m < (n' : Int) → (lastR (runK f (j + 1))).1 = (j : Int) + 2 - (n' : Int) ∧ (lastR (runK f (j + 1))).2 = (n' : Int)) ∧ (¬ m < (n' : Int) → (lastR (runK f (j + 1))).1 = b ∧ (lastR (runK f (j + 1))).2 = m)) := Lib.hid ⟨fun h => by rw [HMORE.out h]; exact ⟨rfl, rfl⟩, fun h => by rw [HLESS.out h]; exact HBM.out⟩
        clear HMORE HLESS HBM
        by_cases hneg : x < 0
        · obtain rfl : n' = 0 := by rw [HNS.out, if_pos hneg]
          by_cases hmn : m < ((0 : Nat) : Int)
          · have hmn2 : m < 0 := hmn
            have HF := Lib.hid (hrest.out.1 hmn)
            clear HNS hmn
            go_wp2_with fail
            exact ⟨⟨j + 1, hlt, by go_num, by rw [HF.out.1]; go_num, by rw [HF.out.2]; rfl, by rw [HN'.out]; rfl⟩, by simp [RowKit.intOf]; omega⟩
          · have hmn2 : ¬ m < 0 := hmn
            have HF := Lib.hid (hrest.out.2 hmn)
            clear HNS hmn
            go_wp2_with fail
            exact ⟨⟨j + 1, hlt, by go_num, by rw [HF.out.1], by rw [HF.out.2], by rw [HN'.out]; rfl⟩, by simp [RowKit.intOf]; omega⟩
        · by_cases hj0 : 0 < j
          · have hj1 : 0 < (j : Int) := by omega
            obtain ⟨i, rfl⟩ : ∃ i, j = i + 1 := ⟨j - 1, by omega⟩
            have q1 := HQ.out hj0
            rw [Nat.add_sub_cancel] at q1
            have hns := HNS.out
            rw [if_neg hneg, Nat.add_sub_cancel] at hns
            obtain ⟨y, hy⟩ : ∃ y, f i = y := ⟨_, rfl⟩
            rw [hy] at q1 hns
            clear hy HNS
            by_cases hyx : y = x
            · obtain rfl : n' = n + 1 := by rw [hns, if_pos ⟨hj0, hyx⟩]
              have hyx2 : (y == x) = true := by simpa using hyx
              clear hns hyx
              by_cases hmn : m < ((n + 1 : Nat) : Int)
              · have HF := Lib.hid (hrest.out.1 hmn)
                have hmn2 : m < (n : Int) + 1 := by omega
                clear hmn
                go_wp2_with fail
                exact ⟨⟨i + 1 + 1, hlt, by go_num, by rw [HF.out.1]; go_num, by rw [HF.out.2]; go_num, by rw [HN'.out]; go_num⟩, by simp [RowKit.intOf]; omega⟩
              · have HF := Lib.hid (hrest.out.2 hmn)
                have hmn2 : ¬ m < (n : Int) + 1 := by omega
                clear hmn
                go_wp2_with fail
                exact ⟨⟨i + 1 + 1, hlt, by go_num, by rw [HF.out.1], by rw [HF.out.2], by rw [HN'.out]; go_num⟩, by simp [RowKit.intOf]; omega⟩
            · obtain rfl : n' = 1 := by rw [hns, if_neg (fun h => hyx h.2)]
              have hyx2 : (y == x) = false := by simpa using hyx
              clear hns hyx
              by_cases hmn : m < ((1 : Nat) : Int)
              · have HF := Lib.hid (hrest.out.1 hmn)
                have hmn2 : m < 1 := hmn
                clear hmn
                go_wp2_with fail
                exact ⟨⟨i + 1 + 1, hlt, by go_num, by rw [HF.out.1]; go_num, by rw [HF.out.2]; rfl, by rw [HN'.out]; rfl⟩, by simp [RowKit.intOf]; omega⟩
              · have HF := Lib.hid (hrest.out.2 hmn)
                have hmn2 : ¬ m < 1 := hmn
                clear hmn
                go_wp2_with fail
                exact ⟨⟨i + 1 + 1, hlt, by go_num, by rw [HF.out.1], by rw [HF.out.2], by rw [HN'.out]; rfl⟩, by simp [RowKit.intOf]; omega⟩
          · obtain rfl : j = 0 := by omega
            obtain rfl : n' = 1 := by rw [HNS.out, if_neg hneg, if_neg (fun h => hj0 h.1)]
            clear HNS
            by_cases hmn : m < ((1 : Nat) : Int)
            · have HF := Lib.hid (hrest.out.1 hmn)
              have hmn2 : m < 1 := hmn
              clear hmn
              go_wp2_with fail
              exact ⟨⟨0 + 1, hlt, by go_num, by rw [HF.out.1]; go_num, by rw [HF.out.2]; rfl, by rw [HN'.out]; rfl⟩, by simp [RowKit.intOf]; omega⟩
            · have HF := Lib.hid (hrest.out.2 hmn)
              have hmn2 : ¬ m < 1 := hmn
              clear hmn
              go_wp2_with fail
              exact ⟨⟨0 + 1, hlt, by go_num, by rw [HF.out.1], by rw [HF.out.2], by rw [HN'.out]; rfl⟩, by simp [RowKit.intOf]; omega⟩
      · obtain rfl : j = K := by omega
        have hlt2 : ¬ ((j : Int) < (j : Int)) := by omega
        have hany : anyR (runK f j) = decide (0 < (lastR (runK f j)).2) := by
          unfold anyR
          rw [Bool.eq_iff_iff, decide_eq_true_eq, decide_eq_true_eq, ne_eq, run_any, Classical.not_not]
        rw [hany] at HR0
        obtain ⟨b, hb⟩ : ∃ b, (lastR (runK f j)).1 = b := ⟨_, rfl⟩
        obtain ⟨m, hm⟩ : ∃ m, (lastR (runK f j)).2 = m := ⟨_, rfl⟩
        rw [hb, hm] at HR0 ⊢
        clear hany hb hm
        by_cases h0 : 0 < m
        · rw [decide_eq_true h0] at HR0
          go_wp2_with fail
          try go_quiet (fail)
          try go_wp2
          go_ret3
          exact ⟨ret_3 HR0.out, by first | exact HB.out | exact below_drewN HB.out _⟩
        · rw [decide_eq_false h0] at HR0
          go_wp2_with fail
          try go_quiet (fail)
          try go_wp2
          go_ret3
          exact ⟨ret_3 HR0.out, by first | exact HB.out | exact below_drewN HB.out _⟩
end Go.Proofs.Ytponmblponfdaaa
