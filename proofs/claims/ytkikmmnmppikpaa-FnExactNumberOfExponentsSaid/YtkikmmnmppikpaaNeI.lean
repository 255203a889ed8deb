/-
  'areExponents', 'NumberOfExponents' of the program.
-/
import Derived.Test.YtkikmmnmppikpaaNeM
import Derived.Deep.RegionWith
namespace Go.Proofs.Ytkikmmnmppikpaa
open Go.RowKit
set_option linter.unusedVariables false

set_option maxHeartbeats 4000000 in
theorem areExponents_any (xss : List (List Int)) (v : Value) (w : World) (h : SSIn w v xss) (hl : ∀ i, i < xss.length → (xss.getD i []).length ≤ 1048576) (hls : xss.length ≤ 1048576) :
    Calls Try.prog 50 #[v] w fun e w' => e = .returned (.bool (decide (xss.length ≤ 12) && okF xss xss.length 0 0)) ∧ Below w.heap.size w w' := by
  obtain ⟨a, cap, rfl, hx⟩ := h
  obtain ⟨K, hK⟩ : ∃ K, xss.length = K := ⟨_, rfl⟩
  rw [hK] at hx hl hls ⊢
  have HX := Lib.hid hx
  have HLN := Lib.hid hl
  have hK0 : (K : Int) ≤ 1048576 := by omega
  clear hx hl hK
  by_cases h12 : K ≤ 12
  case neg =>
    have HE : Hid ((decide (K ≤ 12) && okF xss K 0 0) = false) := Lib.hid (by rw [decide_eq_false h12]; rfl)
    have h13 : 12 < (K : Int) := by omega
    go_enter Try.func50, Try.ntmps50
    go_wp2_with fail
    go_ret
    exact ⟨ret_bool HE.out.symm, Below.refl _ _⟩
  have HE : Hid ((decide (K ≤ 12) && okF xss K 0 0) = okF xss K 0 0) := Lib.hid (by rw [decide_eq_true h12]; rfl)
  have h13 : ¬ 12 < (K : Int) := by omega
  rw [HE.out]
  clear h12 HE
  have HOK : Hid (∃ b, okF xss K 0 0 = b) := Lib.hid ⟨_, rfl⟩
  obtain ⟨OK, hOK⟩ := HOK.out
  rw [hOK]
  replace HOK := Lib.hid hOK
  have HSU := Lib.hid (fun k i last => okF_succ xss k i last)
  clear hOK
  go_enter Try.func50, Try.ntmps50
  go_wp2_with fail
  go_loopw [3, 11] (fun l i wr => ∃ (j : Nat) (last : Int), j ≤ K ∧ i = .int .i64 j ∧ l = .int .i64 last ∧ okF xss (K - j) j last = OK ∧ Below w.heap.size w wr) (fun _ i _ => K - (RowKit.intOf i).toNat)
  case atStart => exact ⟨0, 0, Nat.zero_le _, rfl, rfl, HOK.out, Below.refl _ _⟩
  case round =>
    obtain ⟨j, last, hj, rfl, rfl, hf, hb⟩ := hrel
    have HB := Lib.hid hb
    by_cases hlt : j < K
    · obtain ⟨g, u, rfl, hg, q0, hr⟩ := HX.out j hlt
      have hln := HLN.out j hlt
      have q := (hb.cell (p := ⟨g, j, none⟩) hg).trans q0
      have hr' := hr.kept hb
      rw [show K - j = K - (j + 1) + 1 by omega, HSU.out] at hf
      have HF := Lib.hid hf
      have hlt2 : (j : Int) < (K : Int) := by omega
      obtain ⟨x, hx⟩ : ∃ x, xss.getD j [] = x := ⟨_, rfl⟩
      rw [hx] at hln hr' HF
      clear hf hb q0 hr hx
      by_cases h2 : x.length = 2
      case neg =>
        have HT : Hid (false = OK) := Lib.hid (by rw [← HF.out, okR_len h2]; rfl)
        obtain ⟨b, c, rfl⟩ := hr'.len
        have h3 : ¬ ((x.length : Int) = 2) := by omega
        have h4 : (x.length : Int) ≤ 1048576 := by omega
        generalize x.length = n at *
        clear hr'
        go_wp2_with fail
        go_ret
        exact ⟨ret_bool HT.out, HB.out⟩
      obtain ⟨b, c, rfl, hbl, q1, q2⟩ := hr'.two h2
      rw [okR_two h2] at HF
      have HC := Lib.hid (fun W => isPrimeUpTo_any (x.getD 0 0) 100000 W (by omega))
      generalize x.getD 0 0 = x0 at *
      generalize x.getD 1 0 = x1 at *
      have HI : Hid (inB x1 1 40 = decide (1 ≤ x1 ∧ x1 ≤ 40)) := Lib.hid rfl
      clear hr' h2 hln
      by_cases h5 : x0 ≤ last
      · have HT : Hid (false = OK) := Lib.hid (by rw [← HF.out, show decide (last < x0) = false from decide_eq_false (by omega)]; simp)
        go_wp2_with fail
        go_ret
        exact ⟨ret_bool HT.out, HB.out⟩
      · have hdl : decide (last < x0) = true := decide_eq_true (by omega)
        rw [hdl] at HF
        clear hdl
        generalize prU 100000 x0 = bp at *
        cases bp
        · have HT : Hid (false = OK) := Lib.hid (by rw [← HF.out]; simp)
          go_wp2_with fail
          refine (HC.out _).mono ?_
          rintro e w1 ⟨rfl, hb1⟩
          replace HB := Lib.hid (HB.out.trans (hb1.mono HB.out.size))
          clear hb1
          go_wp2_with fail
          go_ret
          exact ⟨ret_bool HT.out, HB.out⟩
        · by_cases h6 : 1 ≤ x1 ∧ x1 ≤ 40
          · have HT : Hid (okF xss (K - (j + 1)) (j + 1) x0 = OK) := Lib.hid (by rw [← HF.out, HI.out, decide_eq_true h6]; rfl)
            obtain ⟨h7, h8⟩ := h6
            go_wp2_with fail
            refine (HC.out _).mono ?_
            rintro e w1 ⟨rfl, hb1⟩
            have r1 := kept_cell hb1 hbl q1
            have r2 := kept_cell hb1 hbl q2
            replace HB := Lib.hid (HB.out.trans (hb1.mono HB.out.size))
            clear hb1
            go_wp2_with fail
            exact ⟨⟨j + 1, x0, hlt, by go_num, rfl, HT.out, HB.out⟩, by simp [RowKit.intOf]; omega⟩
          · have HT : Hid (false = OK) := Lib.hid (by rw [← HF.out, HI.out, decide_eq_false h6]; rfl)
            by_cases h7 : x1 < 1
            · go_wp2_with fail
              refine (HC.out _).mono ?_
              rintro e w1 ⟨rfl, hb1⟩
              have r1 := kept_cell hb1 hbl q1
              have r2 := kept_cell hb1 hbl q2
              replace HB := Lib.hid (HB.out.trans (hb1.mono HB.out.size))
              clear hb1
              go_wp2_with fail
              go_ret
              exact ⟨ret_bool HT.out, HB.out⟩
            · have h8 : 40 < x1 := by omega
              go_wp2_with fail
              refine (HC.out _).mono ?_
              rintro e w1 ⟨rfl, hb1⟩
              have r1 := kept_cell hb1 hbl q1
              have r2 := kept_cell hb1 hbl q2
              replace HB := Lib.hid (HB.out.trans (hb1.mono HB.out.size))
              clear hb1
              go_wp2_with fail
              go_ret
              exact ⟨ret_bool HT.out, HB.out⟩
    · obtain rfl : j = K := by omega
      have HT : Hid (true = OK) := Lib.hid (by rw [← hf, Nat.sub_self]; rfl)
      have hlt2 : ¬ ((j : Int) < (j : Int)) := by omega
      clear hf hb
      go_wp2_with fail
      go_ret
      exact ⟨ret_bool HT.out, HB.out⟩

theorem ret_nv {xss : List (List Int)} {a : Int} {b : Bool} (h : a = neV xss) (h' : b = neB xss) : Ending.returned (.tuple #[.int .i64 a, .bool b]) = .returned (.tuple #[.int .i64 (neV xss), .bool (neB xss)]) := by rw [h, h']
theorem ne_no {xss : List (List Int)} (h : neB xss = false) : 0 = neV xss ∧ false = neB xss := by rw [neV, h]; exact ⟨rfl, rfl⟩
theorem ne_yes {xss : List (List Int)} (h : neB xss = true) {n : Int} (hn : stF xss xss.length 0 1 = n) : n = neV xss ∧ true = neB xss := by rw [neV, h, ← hn]; exact ⟨rfl, rfl⟩
/-- The pairs of a list that is well. -/
theorem okF_at (xss : List (List Int)) : ∀ (k i : Nat) (last : Int), okF xss k i last = true → ∀ j, j < k → ∃ l, okR (xss.getD (i + j) []) l = true := by
  intro k
  induction k with
  | zero => intro i last _ j hj; omega
  | succ k ih =>
    intro i last h j hj
    rw [okF_succ, Bool.and_eq_true] at h
    rcases j with _ | j
    · exact ⟨last, h.1⟩
    · have := ih (i + 1) _ h.2 j (by omega)
      rwa [show i + 1 + j = i + (j + 1) by omega] at this
theorem man_mul {n p : Int} (h : manB n = true) (hp : 2 ≤ p ∧ p ≤ 100000) : 0 ≤ n * p ∧ n * p ≤ 100000000000000000 := by
  have := manB_iff.1 h
  constructor
  · exact Int.mul_nonneg (by omega) (by omega)
  · have := Int.mul_le_mul this.2 hp.2 (by omega) (by omega)
    omega

set_option maxHeartbeats 4000000 in
theorem iNumberOfExponents (xss : List (List Int)) (v : Value) (w : World) (h : SSIn w v xss) (hl : ∀ i, i < xss.length → (xss.getD i []).length ≤ 1048576) (hls : xss.length ≤ 1048576) :
    Calls Try.prog 20 #[v] w fun e w' => e = .returned (.tuple #[.int .i64 (neV xss), .bool (neB xss)]) ∧ Below w.heap.size w w' := by
  have HA := Lib.hid (areExponents_any xss v w h hl hls)
  have HNB : Hid (neB xss = (decide (xss.length ≤ 12) && (okF xss xss.length 0 0 && manB (stF xss xss.length 0 1)))) := Lib.hid rfl
  by_cases hA : (decide (xss.length ≤ 12) && okF xss xss.length 0 0) = true
  case neg =>
    have hA' : (decide (xss.length ≤ 12) && okF xss xss.length 0 0) = false := by simpa using hA
    have HE := Lib.hid (ne_no (xss := xss) (by rw [HNB.out, ← Bool.and_assoc, hA']; rfl))
    rw [hA'] at HA
    obtain ⟨a, cap, rfl, hx⟩ := h
    generalize xss.length = K at *
    clear hA hA' hx hl
    go_enter Try.func20, Try.ntmps20
    go_wp2_with fail
    refine HA.out.mono ?_
    rintro e w1 ⟨rfl, hb1⟩
    go_wp2_with fail
    go_ret2
    exact ⟨ret_nv HE.out.1 HE.out.2, hb1⟩
  rw [hA] at HA
  rw [Bool.and_eq_true, decide_eq_true_eq] at hA
  obtain ⟨h12, hok⟩ := hA
  have HR : Hid (∀ j, j < xss.length → (xss.getD j []).length = 2 ∧ (2 ≤ (xss.getD j []).getD 0 0 ∧ (xss.getD j []).getD 0 0 ≤ 100000) ∧ (1 ≤ (xss.getD j []).getD 1 0 ∧ (xss.getD j []).getD 1 0 ≤ 40)) := Lib.hid (fun j hj => by
    obtain ⟨l, hl⟩ := okF_at xss _ 0 0 hok j hj
    rw [Nat.zero_add] at hl
    obtain ⟨a1, a2, a3, _⟩ := okR_iff hl
    exact ⟨a1, prU_iff a2, a3⟩)
  have HYES : Hid (∀ n, stF xss xss.length 0 1 = n → manB n = true → n = neV xss ∧ true = neB xss) := Lib.hid (fun n hn hm => ne_yes (by rw [HNB.out, hok, hn, hm, decide_eq_true h12]; rfl) hn)
  have HNO : Hid (∀ n, stF xss xss.length 0 1 = n → manB n = false → 0 = neV xss ∧ false = neB xss) := Lib.hid (fun n hn hm => ne_no (by rw [HNB.out, hn, hm]; simp))
  obtain ⟨a, cap, rfl, hx⟩ := h
  obtain ⟨V, hV⟩ : ∃ V, stF xss xss.length 0 1 = V := ⟨_, rfl⟩
  replace HYES := Lib.hid (HYES.out V hV)
  replace HNO := Lib.hid (HNO.out V hV)
  obtain ⟨K, hK⟩ : ∃ K, xss.length = K := ⟨_, rfl⟩
  rw [hK] at hx hl hls h12 HR HA hV ⊢
  have HX := Lib.hid hx
  have HV := Lib.hid hV
  have HSU := Lib.hid (fun k i n => stF_succ xss k i n)
  have hK0 : (K : Int) ≤ 12 := by omega
  clear hx hl hK hok HNB hV h12 hls
  go_enter Try.func20, Try.ntmps20
  go_wp2_with fail
  refine HA.out.mono ?_
  rintro e w1 ⟨rfl, hb1⟩
  have HB1 := Lib.hid hb1
  clear hb1 HA
  go_wp2_with fail
  go_loop [4, 12] (fun m i => ∃ (j : Nat) (n : Int), j ≤ K ∧ i = .int .i64 j ∧ m = .int .i64 n ∧ manB n = true ∧ stF xss (K - j) j n = V) (fun _ i => K - (RowKit.intOf i).toNat)
  case atStart => exact ⟨0, 1, Nat.zero_le _, rfl, rfl, by decide, HV.out⟩
  case round =>
    obtain ⟨j, n, hj, rfl, rfl, hm, hf⟩ := hrel
    have HM := Lib.hid hm
    by_cases hlt : j < K
    · obtain ⟨g, u, rfl, hg, q0, hr⟩ := HX.out j hlt
      obtain ⟨h2, ⟨p2, pn⟩, e1, e4⟩ := HR.out j hlt
      have q := (HB1.out.cell (p := ⟨g, j, none⟩) hg).trans q0
      obtain ⟨b, c, rfl, hbl, c0, c1⟩ := (hr.kept HB1.out).two h2
      rw [show K - j = K - (j + 1) + 1 by omega, HSU.out] at hf
      generalize (xss.getD j []).getD 0 0 = x0 at *
      generalize (xss.getD j []).getD 1 0 = x1 at *
      have HF := Lib.hid hf
      have hlt2 : (j : Int) < (K : Int) := by omega
      obtain ⟨E, hE⟩ : ∃ E : Nat, x1.toNat = E := ⟨_, rfl⟩
      rw [hE] at HF
      obtain rfl : x1 = (E : Int) := by omega
      clear hf hm q0 hr h2 hE
      go_wp2_with fail
      go_loop [4, 19] (fun m i => ∃ (k : Nat) (n' : Int), k ≤ E ∧ i = .int .i64 k ∧ m = .int .i64 n' ∧ manB n' = true ∧ mulK x0 (E - k) n' = mulK x0 E n) (fun _ i => E - (RowKit.intOf i).toNat)
      case atStart => exact ⟨0, n, Nat.zero_le _, rfl, rfl, HM.out, rfl⟩
      case round =>
        obtain ⟨k, n', hk, rfl, rfl, hm', hf'⟩ := hrel
        have hmm := man_mul hm' ⟨p2, pn⟩
        have HM' := Lib.hid hm'
        have hn' := manB_iff.1 hm'
        obtain ⟨hn1, hn2⟩ := hn'
        obtain ⟨hq1, hq2⟩ := hmm
        by_cases hkl : k < E
        · rw [show E - k = E - (k + 1) + 1 by omega, mulK_good hm'] at hf'
          have HF' := Lib.hid hf'
          have HMC := Lib.hid (fun W => isMade_any (n' * x0) W)
          have hkl2 : (k : Int) < (E : Int) := by omega
          have hk40 : (k : Int) ≤ 40 := by omega
          clear hm' hf'
          obtain ⟨y, hy⟩ : ∃ y, n' * x0 = y := ⟨_, rfl⟩
          rw [hy] at HF' HMC hq1 hq2
          have HY := Lib.hid hy
          obtain ⟨bm, hbm⟩ : ∃ bm, manB y = bm := ⟨_, rfl⟩
          rw [hbm] at HMC
          have HBM := Lib.hid hbm
          clear hbm
          cases bm
          · have HZ : Hid (0 = neV xss ∧ false = neB xss) := Lib.hid (by
              refine HNO.out ?_
              have e := HF'.out
              rw [mulK_bad HBM.out] at e
              have e2 := HF.out
              rw [← e, stF_bad HBM.out] at e2
              rw [← e2]; exact HBM.out)
            go_wp2_with (go_at_call 51; refine (HMC.out _).mono ?_; rintro e w2 ⟨rfl, rfl⟩)
            go_ret2
            exact ⟨ret_nv HZ.out.1 HZ.out.2, HB1.out⟩
          · go_wp2_with (go_at_call 51; refine (HMC.out _).mono ?_; rintro e w2 ⟨rfl, rfl⟩)
            exact ⟨⟨k + 1, y, hkl, by go_num, rfl, HBM.out, HF'.out⟩, by simp [RowKit.intOf]; omega⟩
        · obtain rfl : k = E := by omega
          have HF' : Hid (n' = mulK x0 k n) := Lib.hid (by rw [Nat.sub_self] at hf'; exact hf')
          have hkl2 : ¬ ((k : Int) < (k : Int)) := by omega
          clear hm' hf'
          go_wp2_with fail
          exact ⟨⟨j + 1, n', hlt, by go_num, rfl, HM'.out, by rw [HF'.out]; exact HF.out⟩, by simp [RowKit.intOf]; omega⟩
    · obtain rfl : j = K := by omega
      have HT : Hid (n = neV xss ∧ true = neB xss) := Lib.hid (by
        rw [Nat.sub_self] at hf
        have e : n = V := hf
        subst e
        exact HYES.out hm)
      have hlt2 : ¬ ((j : Int) < (j : Int)) := by omega
      clear hf hm
      go_wp2_with fail
      go_ret2
      exact ⟨ret_nv HT.out.1 HT.out.2, HB1.out⟩
end Go.Proofs.Ytkikmmnmppikpaa
