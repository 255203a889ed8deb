/-
  THE LAW 'RecordsFirstOfAll': what the records, the sums and the runs have to do with the list, as facts for its walk.
-/
import Derived.Test.YtponmblponfdaaaRfM
import Derived.Test.YtponmblponfdaaaVr
namespace Go.Proofs.Ytponmblponfdaaa
open Go.RowKit
set_option linter.unusedVariables false

structure RfK (t p : Int) (K : Nat) (a bs : Nat → Int) (ns : Nat → Nat) (sm : Nat → Int) (cn : Nat → Nat) (three : Bool) (slow most top peak num den beg lon : Int) (R S : Nat) : Prop where
  hK1 : 1 ≤ K
  hK : K ≤ 300
  ab : ∀ m, m < K → -1 ≤ a m ∧ a m ≤ 1000
  need : ∀ m, m < K → ∃ (z : Int) (b : Bool), (b = true → 0 ≤ a m ∧ z = a m) ∧ (b = false → ¬ 0 ≤ a m) ∧ ∀ W, Calls Try.prog 22 #[.agg #[.int .i64 t, .int .i64 p], .int .i64 ((m : Int) + 1)] W fun e w' => e = .returned (.tuple #[.int .i64 z, .bool b]) ∧ Below W.heap.size W w'
  b0 : bs 0 = -1
  n0 : ns 0 = 0
  s0 : sm 0 = 0
  c0 : cn 0 = 0
  new : ∀ m, m < K → bs m < a m → ns m < R ∧ ns (m + 1) = ns m + 1 ∧ bs (m + 1) = a m
  old : ∀ m, m < K → ¬ bs m < a m → ns (m + 1) = ns m ∧ bs (m + 1) = bs m
  nb : ∀ m, ns m ≤ m
  nR : ns K = R
  S3 : S ≤ 300
  shas : ∀ m, m < K → 0 ≤ a m → sm (m + 1) = sm m + a m ∧ cn (m + 1) = cn m + 1
  snone : ∀ m, m < K → ¬ 0 ≤ a m → sm (m + 1) = sm m ∧ cn (m + 1) = cn m
  sb : ∀ m, m ≤ K → 0 ≤ sm m ∧ sm m ≤ 1000 * (m : Int)
  cb : ∀ m, cn m ≤ m
  t3 : three = decide (0 < R)
  RS : S = 0 ↔ R = 0
  bm : three = true → bs K = most
  mean : three = true → sm K * den = num * (cn K : Int) ∧ 0 ≤ num ∧ num ≤ 300000 ∧ 0 ≤ den ∧ den ≤ 300
  run : three = true → ∃ u v : Nat, beg = (u : Int) + 1 ∧ lon = (v : Int) + 1 ∧ u + v < K ∧ 0 ≤ a u ∧ ∀ j, u ≤ j → j ≤ u + v → a j = a u
structure RfC (W : World) (aR aK : Option Addr) (K : Nat) (a bs : Nat → Int) (ns : Nat → Nat) (three : Bool) (slow most top peak : Int) (R S : Nat) : Prop where
  rows : ∀ m, m < K → bs m < a m → ∃ g b, aR = some ⟨g, 0, none⟩ ∧ g < W.heap.size ∧ W.cell? ⟨g, ns m, none⟩ = some (.slice (some ⟨b, 0, none⟩) 2 2) ∧ b < W.heap.size ∧ W.cell? ⟨b, 0, none⟩ = some (.int .i64 ((m : Int) + 1)) ∧ W.cell? ⟨b, 1, none⟩ = some (.int .i64 (a m))
  last : three = true → ∃ g b, aR = some ⟨g, 0, none⟩ ∧ g < W.heap.size ∧ W.cell? ⟨g, R - 1, none⟩ = some (.slice (some ⟨b, 0, none⟩) 2 2) ∧ b < W.heap.size ∧ W.cell? ⟨b, 0, none⟩ = some (.int .i64 slow) ∧ W.cell? ⟨b, 1, none⟩ = some (.int .i64 most)
  lasp : three = true → ∃ g b, aK = some ⟨g, 0, none⟩ ∧ g < W.heap.size ∧ W.cell? ⟨g, S - 1, none⟩ = some (.slice (some ⟨b, 0, none⟩) 2 2) ∧ b < W.heap.size ∧ W.cell? ⟨b, 0, none⟩ = some (.int .i64 top) ∧ W.cell? ⟨b, 1, none⟩ = some (.int .i64 peak)
theorem lastR_getD (rs : List (Int × Int)) (h : 0 < rs.length) : rs.getD (rs.length - 1) (0, 0) = lastR rs := by
  have hne : rs ≠ [] := by intro e; rw [e] at h; simp at h
  rw [lastR, List.getLast?_eq_getElem?, List.getD_eq_getElem?_getD]
theorem lowT_small {s c : Int} (hs : 0 ≤ s) (hc : 0 < c) : 0 ≤ (lowT s c).1 ∧ (lowT s c).1 ≤ s ∧ 0 ≤ (lowT s c).2 ∧ (lowT s c).2 ≤ c := by
  rw [lowT, if_neg (by omega)]
  dsimp only
  have hg := gcd_pos (a := s) (b := c) (by omega)
  rw [Int.tdiv_eq_ediv_of_nonneg hs, Int.tdiv_eq_ediv_of_nonneg (by omega)]
  exact ⟨Int.ediv_nonneg hs (by omega), Int.ediv_le_self _ hs, Int.ediv_nonneg (by omega) (by omega), Int.ediv_le_self _ (by omega)⟩
theorem rf_facts {t p k : Int} (ha : askL t p k = true) : ∃ K : Nat, k = K ∧ (tabA needN t p k).length = K ∧
    RfK t p K (atL (tabA needN t p k)) (fun m => bst (recK (atL (tabA needN t p k)) m)) (fun m => (recK (atL (tabA needN t p k)) m).length) (sumK (atL (tabA needN t p k))) (cntK (atL (tabA needN t p k))) (anyR (rcL (tabA needN t p k))) (lastR (rcL (tabA needN t p k))).1 (lastR (rcL (tabA needN t p k))).2 (lastR (rcL (tabA peakN t p k))).1 (lastR (rcL (tabA peakN t p k))).2 (meanL (tabA needN t p k)).1 (meanL (tabA needN t p k)).2.1 (runL (tabA needN t p k)).1 (runL (tabA needN t p k)).2.1 (rcL (tabA needN t p k)).length (rcL (tabA peakN t p k)).length := by
  obtain ⟨K, rfl, hK1, hK, hg⟩ := askL_yes ha
  have hlen : (tabA needN t p (K : Int)).length = K := by rw [tabA_yes ha, tabL_length]
  have hlenp : (tabA peakN t p (K : Int)).length = K := by rw [tabA_yes ha, tabL_length]
  have hat : ∀ m, m < K → atL (tabA needN t p (K : Int)) m = needN t p ((m : Int) + 1) := fun m hm => by unfold atL; rw [tabA_yes ha, tabL_at hm]
  have hatp : ∀ m, m < K → atL (tabA peakN t p (K : Int)) m = peakN t p ((m : Int) + 1) := fun m hm => by unfold atL; rw [tabA_yes ha, tabL_at hm]
  have hsm : ∀ m, m < K → -1 ≤ atL (tabA needN t p (K : Int)) m ∧ atL (tabA needN t p (K : Int)) m ≤ 1000 := fun m hm => small_need t p K m (by rw [hlen]; exact hm)
  have hrc : rcL (tabA needN t p (K : Int)) = recK (atL (tabA needN t p (K : Int))) K := by unfold rcL; rw [hlen]
  have hrcp : rcL (tabA peakN t p (K : Int)) = recK (atL (tabA peakN t p (K : Int))) K := by unfold rcL; rw [hlenp]
  have hm1 : ∀ k', k' ≤ K → ∀ j, j < k' → -1 ≤ atL (tabA needN t p (K : Int)) j := fun k' hk j hj => (hsm j (by omega)).1
  have hbp : ∀ j, j < K → -1 ≤ atL (tabA peakN t p (K : Int)) j := fun j hj => by rw [hatp j hj]; exact (peakN_bound t p _ (by omega)).1
  have hok : RecOk (recK (atL (tabA needN t p (K : Int))) K) := recK_ok (hm1 K (Nat.le_refl _))
  have hpk : (rcL (tabA peakN t p (K : Int))).length = 0 ↔ (rcL (tabA needN t p (K : Int))).length = 0 := by
    rw [hrc, hrcp, List.length_eq_zero_iff, List.length_eq_zero_iff, recK_nil hbp, recK_nil (hm1 K (Nat.le_refl _))]
    constructor
    · intro h j hj
      have := h j hj
      rw [hatp j hj, peak_none_iff (by omega)] at this
      rw [hat j hj]
      exact needN_none this
    · intro h j hj
      have := h j hj
      rw [hat j hj, needN_neg] at this
      rw [hatp j hj]
      exact peakN_none this
  have h3 : anyR (rcL (tabA needN t p (K : Int))) = decide (0 < (rcL (tabA needN t p (K : Int))).length) := by
    rw [Bool.eq_iff_iff, hrc, anyR_iff hok, decide_eq_true_eq]
  have hpos : anyR (rcL (tabA needN t p (K : Int))) = true → 0 < (recK (atL (tabA needN t p (K : Int))) K).length := fun h => by rw [h3, decide_eq_true_eq, hrc] at h; exact h
  have hsb : ∀ m, m ≤ K → 0 ≤ sumK (atL (tabA needN t p (K : Int))) m ∧ sumK (atL (tabA needN t p (K : Int))) m ≤ 1000 * (m : Int) := fun m hm => sumK_bound (fun j hj => hsm j (by omega))
  have hcp : anyR (rcL (tabA needN t p (K : Int))) = true → 0 < cntK (atL (tabA needN t p (K : Int))) K := fun h => by
    have := hpos h
    refine Nat.pos_of_ne_zero (fun e => ?_)
    rw [(recK_nil (hm1 K (Nat.le_refl _))).2 (cntK_zero.1 e)] at this
    simp at this
  refine ⟨K, rfl, hlen, ⟨hK1, hK, hsm, fun m hm => ?_, rfl, rfl, rfl, rfl, fun m hm hb => ?_, fun m hm hb => ?_, fun m => recK_len _ _, by rw [hrc], by have := rcL_len (tabA peakN t p (K : Int)); omega, fun m hm h0 => ?_, fun m hm h0 => ?_, hsb, cntK_le _, h3, hpk, fun h => ?_, fun h => ?_, fun h => ?_⟩⟩
  · refine ⟨ndA t p ((m : Int) + 1), (cyA t p ((m : Int) + 1)).isSome, fun h => ?_, fun h => ?_, fun W => iStepsNeeded t p ((m : Int) + 1) W⟩
    · rw [hat m hm]
      have hb := needN_bound t p ((m : Int) + 1)
      have hn : needN t p ((m : Int) + 1) ≠ -1 := fun e => by rw [needN_neg.1 e] at h; simp at h
      refine ⟨by omega, by rw [ndA, if_pos h]⟩
    · rw [hat m hm]
      have : cyA t p ((m : Int) + 1) = none := by
        cases hc : cyA t p ((m : Int) + 1) with
        | none => rfl
        | some x => rw [hc] at h; simp at h
      rw [needN_none this]
      decide
  · rw [hrc]
    have h1 := rec_at (a := atL (tabA needN t p (K : Int))) (hm1 K (Nat.le_refl _)) hm hb
    have h2 := recK_len_new (a := atL (tabA needN t p (K : Int))) (hm1 K (Nat.le_refl _)) hm hb
    exact ⟨h1.1, h2.1, h2.2⟩
  · have h2 := recK_len_old (a := atL (tabA needN t p (K : Int))) (hm1 K (Nat.le_refl _)) hm hb
    try dsimp only
    rw [h2]
    exact ⟨rfl, rfl⟩
  · exact sumK_has (by omega)
  · exact sumK_none (by have := hsm m hm; omega)
  · have := hpos h
    try dsimp only
    rw [hrc, bst, if_neg (by intro e; rw [e] at this; simp at this)]
  · have hc := hcp h
    have hml : meanL (tabA needN t p (K : Int)) = ((lowT (sumK (atL (tabA needN t p (K : Int))) K) (cntK (atL (tabA needN t p (K : Int))) K)).1, (lowT (sumK (atL (tabA needN t p (K : Int))) K) (cntK (atL (tabA needN t p (K : Int))) K)).2, true) := by
      rw [meanL, hlen, if_neg (by omega)]
    rw [hml]
    have h1 := mean_eq (sumK (atL (tabA needN t p (K : Int))) K) (cntK (atL (tabA needN t p (K : Int))) K) (by omega)
    have h2 := hsb K (Nat.le_refl _)
    have h4 := cntK_le (atL (tabA needN t p (K : Int))) K
    have h5 := lowT_small (s := sumK (atL (tabA needN t p (K : Int))) K) (c := (cntK (atL (tabA needN t p (K : Int))) K : Int)) h2.1 (by omega)
    exact ⟨h1, h5.1, by dsimp only; omega, h5.2.2.1, by dsimp only; omega⟩
  · have hne : runK (atL (tabA needN t p (K : Int))) K ≠ [] := by
      intro e
      have := hcp h
      rw [cntK_zero.2 (runK_nil.1 e)] at this
      omega
    obtain ⟨u, v, h1, h2, h4, h5⟩ := runs_lie _ K _ (lastR_mem hne)
    have hrl : (runL (tabA needN t p (K : Int))).1 = (lastR (runK (atL (tabA needN t p (K : Int))) K)).1 ∧ (runL (tabA needN t p (K : Int))).2.1 = (lastR (runK (atL (tabA needN t p (K : Int))) K)).2 := by
      unfold runL
      rw [hlen]
      exact ⟨rfl, rfl⟩
    refine ⟨u, v, by rw [hrl.1, h1], by rw [hrl.2, h1], h2, by have := hsm u (by omega); omega, h5⟩
theorem rf_cells {t p k : Int} (ha : askL t p k = true) {W : World} {B B' : Nat} {aR aK : Option Addr} {cR cK : Nat} (hR : PairsAt W B (.slice aR (rcL (tabA needN t p k)).length cR) (rcL (tabA needN t p k))) (hP : PairsAt W B' (.slice aK (rcL (tabA peakN t p k)).length cK) (rcL (tabA peakN t p k))) :
    RfC W aR aK (tabA needN t p k).length (atL (tabA needN t p k)) (fun m => bst (recK (atL (tabA needN t p k)) m)) (fun m => (recK (atL (tabA needN t p k)) m).length) (anyR (rcL (tabA needN t p k))) (lastR (rcL (tabA needN t p k))).1 (lastR (rcL (tabA needN t p k))).2 (lastR (rcL (tabA peakN t p k))).1 (lastR (rcL (tabA peakN t p k))).2 (rcL (tabA needN t p k)).length (rcL (tabA peakN t p k)).length := by
  obtain ⟨K, rfl, hlen, F⟩ := rf_facts ha
  have hm1 : ∀ j, j < K → -1 ≤ atL (tabA needN t p (K : Int)) j := fun j hj => (F.ab j hj).1
  have hrc : rcL (tabA needN t p (K : Int)) = recK (atL (tabA needN t p (K : Int))) K := by unfold rcL; rw [hlen]
  obtain ⟨a1, c1, e1, h1⟩ := hR.at
  obtain ⟨a2, c2, e2, h2⟩ := hP.at
  injection e1 with e3 e4 e5
  injection e2 with e6 e7 e8
  subst e3 e6
  rw [hlen]
  refine ⟨fun m hm hb => ?_, fun h => ?_, fun h => ?_⟩
  · have r := rec_at (a := atL (tabA needN t p (K : Int))) hm1 hm hb
    rw [← hrc] at r
    obtain ⟨g, b, h3, _, h4, h5, _, h6, h7⟩ := h1 _ r.1
    rw [r.2] at h7
    exact ⟨g, b, h3, h4, h5, h6, h7.1, h7.2.1⟩
  · have hp : 0 < (rcL (tabA needN t p (K : Int))).length := by have := F.t3; rw [h] at this; exact of_decide_eq_true this.symm
    obtain ⟨g, b, h3, _, h4, h5, _, h6, h7⟩ := h1 ((rcL (tabA needN t p (K : Int))).length - 1) (by omega)
    rw [lastR_getD _ hp] at h7
    exact ⟨g, b, h3, h4, h5, h6, h7.1, h7.2.1⟩
  · have hp : 0 < (rcL (tabA needN t p (K : Int))).length := by have := F.t3; rw [h] at this; exact of_decide_eq_true this.symm
    have hp2 : 0 < (rcL (tabA peakN t p (K : Int))).length := Nat.pos_of_ne_zero (fun e => by have := F.RS.1 e; omega)
    obtain ⟨g, b, h3, _, h4, h5, _, h6, h7⟩ := h2 ((rcL (tabA peakN t p (K : Int))).length - 1) (by omega)
    rw [lastR_getD _ hp2] at h7
    exact ⟨g, b, h3, h4, h5, h6, h7.1, h7.2.1⟩
end Go.Proofs.Ytponmblponfdaaa
