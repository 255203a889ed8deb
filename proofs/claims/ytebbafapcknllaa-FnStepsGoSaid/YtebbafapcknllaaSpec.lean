/-
  THE MODEL's LOOPS: 'ShortAfter', 'StepsTo', 'FirstBelow'.
-/
import Derived.Test.YtebbafapcknllaaNum
namespace Go.Proofs.Ytebbafapcknllaa
open Go.RowKit Go.Shelf
set_option linter.unusedVariables false

/-- The map's block, known by its two cells. -/
def MapAt (W : World) (b : Nat) (t p : Int) : Prop := W.cell? ⟨b, 0, none⟩ = some (.int .i64 t) ∧ W.cell? ⟨b, 1, none⟩ = some (.int .i64 p) ∧ b < W.heap.size
theorem MapAt.below {W W' : World} {b B : Nat} {t p : Int} (h : MapAt W b t p) (hB : b < B) (hb : Below B W W') : MapAt W' b t p :=
  ⟨(hb.cell (p := ⟨b, 0, none⟩) hB).trans h.1, (hb.cell (p := ⟨b, 1, none⟩) hB).trans h.2.1, Nat.lt_of_lt_of_le h.2.2 hb.size⟩

set_option maxHeartbeats 1000000 in
theorem sShortAfter (t p n k : Int) (w : World) :
    Calls Try.prog 33 #[.agg #[.int .i64 t, .int .i64 p], .int .i64 n, .int .i64 k] w fun e w' =>
      e = .returned (.tuple #[.int .i64 (aft t p (sx t p) n k).1, .bool (aft t p (sx t p) n k).2]) ∧ Below w.heap.size w w' := by
  by_cases ha : askB t p n k = true
  · have hq := ha
    simp only [askB, inB, Bool.and_eq_true, decide_eq_true_eq] at hq
    obtain ⟨⟨hg, hn⟩, hk0, hk1⟩ := hq
    obtain ⟨K, rfl⟩ : ∃ K : Nat, k = K := ⟨k.toNat, by omega⟩
    have hK : K ≤ 1000 := by omega
    have HG := Lib.hid hg
    have HN := Lib.hid hn
    have HA := Lib.hid ha
    clear hg hn
    go_enter Try.func33, Try.ntmps33
    go_wp2_with (go_at_call 37; refine (mpAsked_any _ _ _ _ _).mono ?_; rintro e w1 ⟨rfl, hb1⟩; obtain ⟨c0, c1, hz, hb⟩ := map_block hb1; clear hb1)
    have hm : MapAt w1 w.heap.size t p := ⟨c0, c1, hz⟩
    have HM := Lib.hid hm
    clear hm c0 c1 ha
    go_loopw [1, 2] (fun a s wr => ∃ (j r : Nat), a = .int .i64 (itr (sx t p) j n) ∧ s = .int .i64 r ∧ j + r = K ∧ allB (sx t p) n (j + 1) = true ∧ MapAt wr w.heap.size t p ∧ Below w.heap.size w wr) (fun _ s _ => (intOf s).toNat)
    case atStart => exact ⟨0, K, rfl, rfl, by omega, by simp [allB, itr, HN.out], HM.out, hb⟩
    case round =>
      obtain ⟨j, r, rfl, rfl, hjr, hall, ⟨c0, c1, hz'⟩, hbr⟩ := hrel
      have hv : numB (itr (sx t p) j n) = true := allB_at (Nat.lt_succ_self j) hall
      obtain ⟨v, hvv⟩ : ∃ v, v = itr (sx t p) j n := ⟨_, rfl⟩
      rw [← hvv] at hv ⊢
      have HV := Lib.hid hvv
      have HNV := Lib.hid hv
      have HALL := Lib.hid hall
      have HJR := Lib.hid hjr
      clear hvv hv hall hb hz
      have hr2 : r ≤ 1000 := by have := HJR.out; omega
      clear hjr
      by_cases hr : 0 < r
      · by_cases hnx : numB (sx t p v) = true
        · have hm1 : j + 1 + (r - 1) = K := by have := HJR.out; omega
          have HM1 := Lib.hid hm1
          clear hm1
          go_wp2_with (first | (go_at_call 52; refine (mpIs_any _ _).mono ?_; rintro e w' ⟨rfl, rfl⟩) | (go_at_call 53; refine (mpShort_any _ _ _ _ HG.out HNV.out).mono ?_; rintro e w2 ⟨rfl, hb2⟩))
          refine ⟨⟨j + 1, r - 1, by rw [itr_succ, ← HV.out], by rw [show ((r - 1 : Nat) : Int) = (r : Int) - 1 from by omega], HM1.out, by rw [allB_succ, HALL.out, itr_succ, ← HV.out, hnx]; rfl, MapAt.below ⟨c0, c1, hz'⟩ hz' hb2, hbr.trans (hb2.mono (by omega))⟩, by simp [intOf]; omega⟩
        · have hnx' : numB (sx t p v) = false := by simpa using hnx
          have hf : aft t p (sx t p) n K = (0, false) := by
            unfold aft
            rw [if_neg]
            rintro ⟨_, h⟩
            have := allB_at (f := sx t p) (n := n) (j := j + 1) (k := (K : Int).toNat + 1) (by have := HJR.out; omega) h
            rw [itr_succ, ← HV.out, hnx'] at this
            exact Bool.noConfusion this
          have HF := Lib.hid hf
          clear hf hnx
          go_wp2_with (first | (go_at_call 52; refine (mpIs_any _ _).mono ?_; rintro e w' ⟨rfl, rfl⟩) | (go_at_call 53; refine (mpShort_any _ _ _ _ HG.out HNV.out).mono ?_; rintro e w2 ⟨rfl, hb2⟩))
          go_ret2
          exact ⟨ret_pair HF.out, hbr.trans (hb2.mono (by omega))⟩
      · have hr0 : r = 0 := by omega
        have hjK : j = K := by have := HJR.out; omega
        have hf : aft t p (sx t p) n K = (v, true) := by
          unfold aft
          rw [if_pos ⟨HA.out, by rw [Int.toNat_natCast, ← hjK]; exact HALL.out⟩, Int.toNat_natCast, ← hjK, ← HV.out]
        have HF := Lib.hid hf
        clear hf hjK
        subst hr0
        go_wp2_with fail
        go_ret2
        exact ⟨ret_pair HF.out, hbr⟩
  · have ha' : askB t p n k = false := by simpa using ha
    have hf : aft t p (sx t p) n k = (0, false) := by
      unfold aft
      rw [if_neg (fun h => ha h.1)]
    have HF := Lib.hid hf
    clear hf ha
    go_enter Try.func33, Try.ntmps33
    go_wp2_with (go_at_call 37; refine (mpAsked_any _ _ _ _ _).mono ?_; rintro e w1 ⟨rfl, hb1⟩; obtain ⟨c0, c1, hz, hb⟩ := map_block hb1; clear hb1)
    go_ret2
    exact ⟨ret_pair HF.out, hb⟩
end Go.Proofs.Ytebbafapcknllaa
