/-
  'ParseMap' of the model.
-/
import Derived.Test.YtmocbkpfoddffaaDoorTextM
namespace Go.Proofs.YtmocbkpfoddffaaDoor
open Go.RowKit
set_option linter.unusedVariables false

theorem good_at {a b : Nat} (ha : a < 5) (hb : b < 10) : goodB (2 * a + 1) (2 * b - 9) = true := goodB_iff.2 (by omega)

theorem str_ne {a b : ByteArray} (h : ¬ a = b) : (a.toList == b.toList) = false := by
  rw [beq_eq_false_iff_ne]
  intro e
  exact h (ByteArray.ext (by rw [← Array.toList_inj]; simpa [ByteArray.toList_eq] using e))
theorem next_num (a : Nat) : 2 * (a : Int) + 1 + 2 = 2 * ((a + 1 : Nat) : Int) + 1 := by omega

/-- The first cell of the block that a call lays for its answer. -/
abbrev Res (w : World) : World := w.alloc (.cells #[.int .i64 0, .int .i64 0] 28)

set_option maxRecDepth 100000 in
set_option maxHeartbeats 2000000 in
theorem mpParse_no (s : ByteArray) (hs : ∀ t p, goodB t p = true → ¬ (byt (mtx t p) = s)) (w : World) :
    Calls Tryd.prog 47 #[.string s] w fun e w' => e = .returned (.tuple #[.agg #[.int .i64 0, .int .i64 0], .bool false]) ∧ Below w.heap.size w w' := by
  have HS := Lib.hid hs
  clear hs
  go_enter Tryd.func47, Tryd.ntmps47
  go_wp2_with fail
  go_loopw [4] (fun T wr => ∃ a : Nat, a ≤ 5 ∧ T = .int .i64 (2 * (a : Int) + 1) ∧ Below (Res w).heap.size (Res w) wr) (fun T _ => 12 - (intOf T).toNat)
  case atStart => exact ⟨0, by omega, rfl, Below.refl _ _⟩
  case round =>
    obtain ⟨a, ha, rfl, hbr⟩ := hrel
    by_cases hlt : a < 5
    · have h9 : 2 * (a : Int) + 1 ≤ 9 := by omega
      go_wp2_with fail
      go_loopw [5] (fun T wq => ∃ b : Nat, b ≤ 10 ∧ T = .int .i64 (2 * (b : Int) - 9) ∧ Below (Res w).heap.size (Res w) wq) (fun T _ => (12 - intOf T).toNat)
      case atStart => exact ⟨0, by omega, by simp, hbr⟩
      case round =>
        obtain ⟨b, hb, rfl, hbq⟩ := hrel
        by_cases hlb : b < 10
        · have h9b : 2 * (b : Int) - 9 ≤ 9 := by omega
          have hg := good_at hlt hlb
          have HN := Lib.hid (HS.out _ _ hg)
          have HG := Lib.hid hg
          clear hg
          go_wp2_with fail
          refine (mpText_any _ _ HG.out _).mono ?_
          rintro e w2 ⟨rfl, hb2⟩
          obtain ⟨c0, c1, hz, hb3⟩ := map_block hb2
          have hbw := hbq.trans (hb3.mono hbq.size)
          have hn := str_ne HN.out
          clear hb2 hb3
          go_wp2_with fail
          exact ⟨⟨b + 1, hlb, by go_num, hbw⟩, by simp [intOf]; omega⟩
        · obtain rfl : b = 10 := by omega
          go_wp2_with fail
          exact ⟨⟨a + 1, hlt, by go_num, hbq⟩, by simp [intOf]; omega⟩
    · obtain rfl : a = 5 := by omega
      have c0 : wr.cell? ⟨w.heap.size, 0, none⟩ = some (.int .i64 0) := (hbr.cell (p := ⟨w.heap.size, 0, none⟩) (by simp)).trans (by go_simp)
      have c1 : wr.cell? ⟨w.heap.size, 1, none⟩ = some (.int .i64 0) := (hbr.cell (p := ⟨w.heap.size, 1, none⟩) (by simp)).trans (by go_simp)
      have f0 : wr.frozen? ⟨w.heap.size, 0, none⟩ = false := (hbr.frozen (p := ⟨w.heap.size, 0, none⟩) (by simp)).trans (by go_simp)
      have f1 : wr.frozen? ⟨w.heap.size, 1, none⟩ = false := (hbr.frozen (p := ⟨w.heap.size, 1, none⟩) (by simp)).trans (by go_simp)
      have hbb := ((Below.refl _ w).alloc (Nat.le_refl _) (.cells #[.int .i64 0, .int .i64 0] 28)).trans (hbr.mono (by simp))
      go_wp2_with fail
      refine bodyPost_ret (v := .tuple #[.agg #[.int .i64 0, .int .i64 0], .bool false]) ?_ rfl ⟨rfl, ?_⟩
      · simp [results, Tryd.results47, go_sem, c0, c1]
      · exact (hbb.setCell (p := ⟨w.heap.size, 0, none⟩) (Nat.le_refl _) _).setCell (p := ⟨w.heap.size, 1, none⟩) (Nat.le_refl _) _

theorem dig_inj {a b : Int} (a1 : 1 ≤ a) (a9 : a ≤ 9) (b1 : 1 ≤ b) (b9 : b ≤ 9) (h : dig a = dig b) : a = b := by
  have h1 := dig_nat a1 a9
  have h2 := dig_nat b1 b9
  rw [h] at h1
  omega
theorem mtx_inj {t p t' p' : Int} (h : goodB t p = true) (h' : goodB t' p' = true) (e : byt (mtx t p) = byt (mtx t' p')) : t = t' ∧ p = p' := by
  obtain ⟨t1, t9, p1, p9, p0⟩ := goodB_dig h
  obtain ⟨s1, s9, q1, q9, q0⟩ := goodB_dig h'
  have e1 : mtx t p = mtx t' p' := by
    have := congrArg (fun b : ByteArray => b.data.toList) e
    simpa [byt] using this
  unfold mtx sgd at e1
  split at e1 <;> split at e1
  all_goals simp at e1
  · have := dig_inj (by omega) (by omega) (by omega) (by omega) e1.1
    have := dig_inj (by omega) (by omega) (by omega) (by omega) e1.2
    omega
  · have := dig_inj (by omega) (by omega) (by omega) (by omega) e1.1
    have := dig_inj (by omega) (by omega) (by omega) (by omega) e1.2
    omega
theorem str_eq (a : ByteArray) : (a.toList == a.toList) = true := by simp
set_option maxRecDepth 100000 in
set_option maxHeartbeats 2000000 in
theorem mpParse_yes (A B : Nat) (hA : A < 5) (hB : B < 10) (s : ByteArray) (hs : s = byt (mtx (2 * A + 1) (2 * B - 9))) (w : World) :
    Calls Tryd.prog 47 #[.string s] w fun e w' => e = .returned (.tuple #[.agg #[.int .i64 (2 * A + 1), .int .i64 (2 * B - 9)], .bool true]) ∧ Below w.heap.size w w' := by
  have HS := Lib.hid hs
  clear hs
  go_enter Tryd.func47, Tryd.ntmps47
  go_wp2_with fail
  go_loopw [4] (fun T wr => ∃ a : Nat, a ≤ A ∧ T = .int .i64 (2 * (a : Int) + 1) ∧ Below (Res w).heap.size (Res w) wr) (fun T _ => 12 - (intOf T).toNat)
  case atStart => exact ⟨0, by omega, rfl, Below.refl _ _⟩
  case round =>
    obtain ⟨a, ha, rfl, hbr⟩ := hrel
    have hlt : a < 5 := by omega
    · have h9 : 2 * (a : Int) + 1 ≤ 9 := by omega
      go_wp2_with fail
      go_loopw [5] (fun T wq => ∃ b : Nat, b ≤ 10 ∧ (a = A → b ≤ B) ∧ T = .int .i64 (2 * (b : Int) - 9) ∧ Below (Res w).heap.size (Res w) wq) (fun T _ => (12 - intOf T).toNat)
      case atStart => exact ⟨0, by omega, by omega, by simp, hbr⟩
      case round =>
        obtain ⟨b, hb, hbB, rfl, hbq⟩ := hrel
        by_cases hlb : b < 10
        · have h9b : 2 * (b : Int) - 9 ≤ 9 := by omega
          have hg := good_at hlt hlb
          have HG := Lib.hid hg
          by_cases hab : a = A ∧ b = B
          · obtain ⟨rfl, rfl⟩ := hab
            have hn := str_eq s
            have HV := HS.out
            clear hg
            go_wp2_with fail
            refine (mpText_any _ _ HG.out _).mono ?_
            rintro e w2 ⟨rfl, hb2⟩
            rw [← HV]
            obtain ⟨c0, c1, hz, hb3⟩ := map_block hb2
            have hbw := hbq.trans (hb3.mono hbq.size)
            have hbb := ((Below.refl _ w).alloc (Nat.le_refl _) (.cells #[.int .i64 0, .int .i64 0] 28)).trans (hbw.mono (by simp))
            have d0 : w2.cell? ⟨w.heap.size, 0, none⟩ = some (.int .i64 0) := (hbw.cell (p := ⟨w.heap.size, 0, none⟩) (by simp)).trans (by go_simp)
            have d1 : w2.cell? ⟨w.heap.size, 1, none⟩ = some (.int .i64 0) := (hbw.cell (p := ⟨w.heap.size, 1, none⟩) (by simp)).trans (by go_simp)
            have f0 : w2.frozen? ⟨w.heap.size, 0, none⟩ = false := (hbw.frozen (p := ⟨w.heap.size, 0, none⟩) (by simp)).trans (by go_simp)
            have f1 : w2.frozen? ⟨w.heap.size, 1, none⟩ = false := (hbw.frozen (p := ⟨w.heap.size, 1, none⟩) (by simp)).trans (by go_simp)
            clear hb2 hb3
            go_wp2_with fail
            refine bodyPost_ret (v := .tuple #[.agg #[.int .i64 (2 * a + 1), .int .i64 (2 * b - 9)], .bool true]) ?_ rfl ⟨rfl, ?_⟩
            · simp [results, Tryd.results47, go_sem, d0, d1]
            · exact (hbb.setCell (p := ⟨w.heap.size, 0, none⟩) (Nat.le_refl _) _).setCell (p := ⟨w.heap.size, 1, none⟩) (Nat.le_refl _) _
          · have hne : ¬ byt (mtx (2 * (a : Int) + 1) (2 * (b : Int) - 9)) = s := fun e => by
              have := mtx_inj hg (good_at hA hB) (e.trans HS.out)
              omega
            have HN := Lib.hid hne
            clear hg hne
            go_wp2_with fail
            refine (mpText_any _ _ HG.out _).mono ?_
            rintro e w2 ⟨rfl, hb2⟩
            obtain ⟨c0, c1, hz, hb3⟩ := map_block hb2
            have hbw := hbq.trans (hb3.mono hbq.size)
            have hn := str_ne HN.out
            clear hb2 hb3
            go_wp2_with fail
            exact ⟨⟨b + 1, hlb, by omega, by go_num, hbw⟩, by simp [intOf]; omega⟩
        · obtain rfl : b = 10 := by omega
          go_wp2_with fail
          exact ⟨⟨a + 1, by omega, by go_num, hbq⟩, by simp [intOf]; omega⟩
end Go.Proofs.YtmocbkpfoddffaaDoor
