/-
  'StepsTo' and 'FirstBelow' of the model.
-/
import Derived.Test.YtmocbkpfoddffaaDoorSpec
import Derived.Test.YtmocbkpfoddffaaDoorFind
namespace Go.Proofs.YtmocbkpfoddffaaDoor
open Go.RowKit Go.Shelf
set_option linter.unusedVariables false

/-- What StepsTo and FirstBelow come to. -/
def sto (t p n g : Int) : Int × Bool := hit (seqOf t p (nx t p) n) (fun x => x.2 == g) Prod.fst
def fbl (t p n : Int) : Int × Bool := hit (seqOf t p (nx t p) n) (fun x => decide (x.2 < n)) Prod.fst
theorem hit_not {t p n : Int} {f : Int → Int} {q : Int × Int → Bool} {r : Int × Int → Int} (h : goodB t p = false ∨ numB n = false) : hit (seqOf t p f n) q r = (0, false) := by
  refine hit_none ?_
  intro x hx
  unfold seqOf at hx
  split at hx
  · rename_i hg
    rcases h with h | h
    · rw [hg] at h; exact Bool.noConfusion h
    · obtain ⟨j, hj, _⟩ := mem_upto hx
      have := ((lt_cnt _ _ _ _).1 hj).2
      have := allB_at (f := f) (n := n) (j := 0) (k := j + 1) (by omega) this
      rw [itr, h] at this
      exact Bool.noConfusion this
  · simp at hx
theorem sto_not {t p n g : Int} (h : numB g = false) : sto t p n g = (0, false) := by
  refine hit_none ?_
  intro x hx
  unfold seqOf at hx
  split at hx
  · obtain ⟨j, hj, rfl⟩ := mem_upto hx
    have := ((lt_cnt _ _ _ _).1 hj).2
    have := allB_at (j := j) (k := j + 1) (by omega) this
    rw [beq_eq_false_iff_ne]
    intro e
    dsimp only at e
    rw [e, h] at this
    exact Bool.noConfusion this
  · simp at hx

set_option maxHeartbeats 1000000 in
theorem sStepsTo (t p n g : Int) (w : World) :
    Calls Tryd.prog 24 #[.agg #[.int .i64 t, .int .i64 p], .int .i64 n, .int .i64 g] w fun e w' =>
      e = .returned (.tuple #[.int .i64 (sto t p n g).1, .bool (sto t p n g).2]) ∧ Below w.heap.size w w' := by
  by_cases hg : goodB t p = true
  · by_cases hn : numB n = true
    · by_cases hgo : numB g = true
      · have HG := Lib.hid hg
        have HN := Lib.hid hn
        go_enter Tryd.func24, Tryd.ntmps24
        go_wp2_with (first | (go_at_call 35; refine (mpGood_any _ _ _).mono ?_; rintro e w1 ⟨rfl, hb1⟩; obtain ⟨c0, c1, hz, hb⟩ := map_block hb1; clear hb1) | (go_at_call 32; refine (mpIs_any _ _).mono ?_; rintro e w' ⟨rfl, rfl⟩))
        have hm : MapAt w1 w.heap.size t p := ⟨c0, c1, hz⟩
        have HM := Lib.hid hm
        clear hm c0 c1 hg hn
        go_loopw [1, 8] (fun a s wr => ∃ (j : Nat), a = .int .i64 (itr (nx t p) j n) ∧ s = .int .i64 j ∧ j ≤ 1001 ∧ allB (nx t p) n j = true ∧ (∀ x ∈ upto (nx t p) n j, (x.2 == g) = false) ∧ MapAt wr w.heap.size t p ∧ Below w.heap.size w wr) (fun _ s _ => 1002 - (intOf s).toNat)
        case atStart => exact ⟨0, rfl, rfl, by omega, rfl, by simp [upto], HM.out, hb⟩
        case round =>
          obtain ⟨j, rfl, rfl, hj, hall, hno, ⟨c0, c1, hz'⟩, hbr⟩ := hrel
          obtain ⟨v, hvv⟩ : ∃ v, v = itr (nx t p) j n := ⟨_, rfl⟩
          rw [← hvv]
          have HV := Lib.hid hvv
          have HALL := Lib.hid hall
          have HNO := Lib.hid hno
          clear hvv hall hno hb hz
          have fin : (j = 1001 ∨ numB v = false) → sto t p n g = (0, false) := fun h => by
            have hc := cnt_eq (f := nx t p) (K := 1001) (n := n) (j := j) hj HALL.out (by rw [← HV.out]; exact h)
            refine hit_none ?_
            rw [seqOf, if_pos HG.out, hc]
            exact HNO.out
          have FIN := Lib.hid fin
          clear fin
          by_cases hj1 : j ≤ 1000
          · have hd : decide ((j : Int) ≤ 1000) = true := by simp; omega
            by_cases hv : numB v = true
            · have HNV := Lib.hid hv
              by_cases he : v = g
              · have hf : sto t p n g = ((j : Int), true) := by
                  have hp : (upto (nx t p) n j ++ [((j : Int), v)]) <+: seqOf t p (nx t p) n := by
                    rw [seqOf, if_pos HG.out, HV.out, ← upto_succ]
                    exact upto_prefix _ _ ((lt_cnt _ _ _ _).2 ⟨by omega, by rw [allB_succ, HALL.out, ← HV.out, hv]; rfl⟩)
                  exact hit_some HNO.out (by simpa using he) hp
                have HF := Lib.hid hf
                have heq : (v == g) = true := by simpa using he
                clear hf he
                go_wp2_with (first | (go_at_call 32; refine (mpIs_any _ _).mono ?_; rintro e w' ⟨rfl, rfl⟩) | (go_at_call 36; refine (mpNext_any _ _ _ _ HG.out HNV.out).mono ?_; rintro e w2 ⟨rfl, hb2⟩))
                go_ret2
                exact ⟨ret_pair HF.out, hbr⟩
              · have heq : (v == g) = false := by simpa using he
                have HE := Lib.hid heq
                clear he
                go_wp2_with (first | (go_at_call 32; refine (mpIs_any _ _).mono ?_; rintro e w' ⟨rfl, rfl⟩) | (go_at_call 36; refine (mpNext_any _ _ _ _ HG.out HNV.out).mono ?_; rintro e w2 ⟨rfl, hb2⟩))
                refine ⟨⟨j + 1, by rw [itr_succ, ← HV.out], by go_num, by omega, by rw [allB_succ, HALL.out, ← HV.out, hv]; rfl, ?_, MapAt.below ⟨c0, c1, hz'⟩ hz' hb2, hbr.trans (hb2.mono (by omega))⟩, by simp [intOf]; omega⟩
                intro x hx
                rw [upto_succ, ← HV.out] at hx
                rcases List.mem_append.1 hx with h | h
                · exact HNO.out x h
                · obtain rfl : x = ((j : Int), v) := by simpa using h
                  exact HE.out
            · have hv' : numB v = false := by simpa using hv
              have HF := Lib.hid (FIN.out (.inr hv'))
              clear hv
              go_wp2_with (first | (go_at_call 32; refine (mpIs_any _ _).mono ?_; rintro e w' ⟨rfl, rfl⟩))
              go_ret2
              exact ⟨ret_pair HF.out, hbr⟩
          · have hd : decide ((j : Int) ≤ 1000) = false := by simp; omega
            have HF := Lib.hid (FIN.out (.inl (by omega)))
            go_wp2_with fail
            go_ret2
            exact ⟨ret_pair HF.out, hbr⟩
      · have hgo' : numB g = false := by simpa using hgo
        clear hgo
        have hf : sto t p n g = (0, false) := sto_not hgo'
        have HF := Lib.hid hf
        clear hf
        go_enter Tryd.func24, Tryd.ntmps24
        go_wp2_with (first | (go_at_call 35; refine (mpGood_any _ _ _).mono ?_; rintro e w1 ⟨rfl, hb1⟩; obtain ⟨c0, c1, hz, hb⟩ := map_block hb1; clear hb1) | (go_at_call 32; refine (mpIs_any _ _).mono ?_; rintro e w' ⟨rfl, rfl⟩))
        go_ret2
        exact ⟨ret_pair HF.out, hb⟩
    · have hn' : numB n = false := by simpa using hn
      clear hn
      have hf : sto t p n g = (0, false) := hit_not (.inr hn')
      have HF := Lib.hid hf
      clear hf
      go_enter Tryd.func24, Tryd.ntmps24
      go_wp2_with (first | (go_at_call 35; refine (mpGood_any _ _ _).mono ?_; rintro e w1 ⟨rfl, hb1⟩; obtain ⟨c0, c1, hz, hb⟩ := map_block hb1; clear hb1) | (go_at_call 32; refine (mpIs_any _ _).mono ?_; rintro e w' ⟨rfl, rfl⟩))
      go_ret2
      exact ⟨ret_pair HF.out, hb⟩
  · have hg' : goodB t p = false := by simpa using hg
    clear hg
    have hf : sto t p n g = (0, false) := hit_not (.inl hg')
    have HF := Lib.hid hf
    clear hf
    go_enter Tryd.func24, Tryd.ntmps24
    go_wp2_with (first | (go_at_call 35; refine (mpGood_any _ _ _).mono ?_; rintro e w1 ⟨rfl, hb1⟩; obtain ⟨c0, c1, hz, hb⟩ := map_block hb1; clear hb1) | (go_at_call 32; refine (mpIs_any _ _).mono ?_; rintro e w' ⟨rfl, rfl⟩))
    go_ret2
    exact ⟨ret_pair HF.out, hb⟩

set_option maxRecDepth 100000 in
set_option maxHeartbeats 1000000 in
theorem sFirstBelow (t p n : Int) (w : World) :
    Calls Tryd.prog 13 #[.agg #[.int .i64 t, .int .i64 p], .int .i64 n] w fun e w' =>
      e = .returned (.tuple #[.int .i64 (fbl t p n).1, .bool (fbl t p n).2]) ∧ Below w.heap.size w w' := by
  by_cases hg : goodB t p = true
  · by_cases hn : numB n = true
    · have HG := Lib.hid hg
      have HN := Lib.hid hn
      go_enter Tryd.func13, Tryd.ntmps13
      go_wp2_with (first | (go_at_call 35; refine (mpGood_any _ _ _).mono ?_; rintro e w1 ⟨rfl, hb1⟩; obtain ⟨c0, c1, hz, hb⟩ := map_block hb1; clear hb1) | (go_at_call 32; refine (mpIs_any _ _).mono ?_; rintro e w' ⟨rfl, rfl⟩))
      have hm : MapAt w1 w.heap.size t p := ⟨c0, c1, hz⟩
      have HM := Lib.hid hm
      clear hm c0 c1 hg hn
      go_loopw [6, 7] (fun a s wr => ∃ (j : Nat), a = .int .i64 (itr (nx t p) j n) ∧ s = .int .i64 ((j : Int) + 1) ∧ j ≤ 1000 ∧ allB (nx t p) n (j + 1) = true ∧ (∀ x ∈ upto (nx t p) n (j + 1), (decide (x.2 < n)) = false) ∧ MapAt wr w.heap.size t p ∧ Below w.heap.size w wr) (fun _ s _ => 1002 - (intOf s).toNat)
      case atStart => exact ⟨0, rfl, rfl, by omega, by simp [allB, itr, HN.out], by simp [upto, itr], HM.out, hb⟩
      case round =>
        obtain ⟨j, rfl, rfl, hj, hall, hno, ⟨c0, c1, hz'⟩, hbr⟩ := hrel
        have hv : numB (itr (nx t p) j n) = true := allB_at (Nat.lt_succ_self j) hall
        obtain ⟨v, hvv⟩ : ∃ v, v = itr (nx t p) j n := ⟨_, rfl⟩
        rw [← hvv] at hv ⊢
        have HV := Lib.hid hvv
        have HALL := Lib.hid hall
        have HNO := Lib.hid hno
        have HNV := Lib.hid hv
        clear hvv hall hno hb hz hv
        have fin : (j + 1 = 1001 ∨ numB (nx t p v) = false) → fbl t p n = (0, false) := fun h => by
          have hc := cnt_eq (f := nx t p) (K := 1001) (n := n) (j := j + 1) (by omega) HALL.out (by rw [itr_succ, ← HV.out]; exact h)
          refine hit_none ?_
          rw [seqOf, if_pos HG.out, hc]
          exact HNO.out
        have FIN := Lib.hid fin
        clear fin
        by_cases hj1 : j < 1000
        · have hd : decide ((j : Int) + 1 ≤ 1000) = true := by simp; omega
          by_cases hv : numB (nx t p v) = true
          · by_cases he : nx t p v < n
            · have hf : fbl t p n = ((j : Int) + 1, true) := by
                have hp : (upto (nx t p) n (j + 1) ++ [(((j + 1 : Nat) : Int), nx t p v)]) <+: seqOf t p (nx t p) n := by
                  rw [seqOf, if_pos HG.out, HV.out, ← itr_succ (nx t p), ← upto_succ]
                  exact upto_prefix _ _ ((lt_cnt _ _ _ _).2 ⟨by omega, by rw [allB_succ, HALL.out, itr_succ, ← HV.out, hv]; rfl⟩)
                exact hit_some HNO.out (by simpa using he) hp
              have HF := Lib.hid hf
              clear hf
              go_wp2_with (first | (go_at_call 32; refine (mpIs_any _ _).mono ?_; rintro e w' ⟨rfl, rfl⟩) | (go_at_call 36; refine (mpNext_any _ _ _ _ HG.out HNV.out).mono ?_; rintro e w2 ⟨rfl, hb2⟩))
              go_ret2
              exact ⟨ret_pair HF.out, hbr.trans (hb2.mono (by omega))⟩
            · have hle : n ≤ nx t p v := by omega
              clear he
              go_wp2_with (first | (go_at_call 32; refine (mpIs_any _ _).mono ?_; rintro e w' ⟨rfl, rfl⟩) | (go_at_call 36; refine (mpNext_any _ _ _ _ HG.out HNV.out).mono ?_; rintro e w2 ⟨rfl, hb2⟩))
              refine ⟨⟨j + 1, by rw [itr_succ, ← HV.out], by go_num, by omega, by rw [allB_succ, HALL.out, itr_succ, ← HV.out, hv]; rfl, ?_, MapAt.below ⟨c0, c1, hz'⟩ hz' hb2, hbr.trans (hb2.mono (by omega))⟩, by simp [intOf]; omega⟩
              intro x hx
              rw [upto_succ, itr_succ, ← HV.out] at hx
              rcases List.mem_append.1 hx with h | h
              · exact HNO.out x h
              · obtain rfl : x = (((j + 1 : Nat) : Int), nx t p v) := by simpa using h
                simpa using hle
          · have hv' : numB (nx t p v) = false := by simpa using hv
            have HF := Lib.hid (FIN.out (.inr hv'))
            clear hv
            go_wp2_with (first | (go_at_call 32; refine (mpIs_any _ _).mono ?_; rintro e w' ⟨rfl, rfl⟩) | (go_at_call 36; refine (mpNext_any _ _ _ _ HG.out HNV.out).mono ?_; rintro e w2 ⟨rfl, hb2⟩))
            go_ret2
            exact ⟨ret_pair HF.out, hbr.trans (hb2.mono (by omega))⟩
        · have HF := Lib.hid (FIN.out (.inl (by omega)))
          have hd : decide ((j : Int) + 1 ≤ 1000) = false := by simp; omega
          go_wp2_with fail
          go_ret2
          exact ⟨ret_pair HF.out, hbr⟩
    · have hn' : numB n = false := by simpa using hn
      clear hn
      have hf : fbl t p n = (0, false) := hit_not (.inr hn')
      have HF := Lib.hid hf
      clear hf
      go_enter Tryd.func13, Tryd.ntmps13
      go_wp2_with (first | (go_at_call 35; refine (mpGood_any _ _ _).mono ?_; rintro e w1 ⟨rfl, hb1⟩; obtain ⟨c0, c1, hz, hb⟩ := map_block hb1; clear hb1) | (go_at_call 32; refine (mpIs_any _ _).mono ?_; rintro e w' ⟨rfl, rfl⟩))
      go_ret2
      exact ⟨ret_pair HF.out, hb⟩
  · have hg' : goodB t p = false := by simpa using hg
    clear hg
    have hf : fbl t p n = (0, false) := hit_not (.inl hg')
    have HF := Lib.hid hf
    clear hf
    go_enter Tryd.func13, Tryd.ntmps13
    go_wp2_with (first | (go_at_call 35; refine (mpGood_any _ _ _).mono ?_; rintro e w1 ⟨rfl, hb1⟩; obtain ⟨c0, c1, hz, hb⟩ := map_block hb1; clear hb1) | (go_at_call 32; refine (mpIs_any _ _).mono ?_; rintro e w' ⟨rfl, rfl⟩))
    go_ret2
    exact ⟨ret_pair HF.out, hb⟩

theorem iStepsTo (t p n g : Int) (w : World) :
    Calls Tryd.prog 23 #[.agg #[.int .i64 t, .int .i64 p], .int .i64 n, .int .i64 g] w fun e w' =>
      e = .returned (.tuple #[.int .i64 (sto t p n g).1, .bool (sto t p n g).2]) ∧ Below w.heap.size w w' :=
  iStepsTo_any t p n g (seqOf t p (nx t p) n) (fun bw bs => iter_step bw bs t p n) w
theorem iFirstBelow (t p n : Int) (w : World) :
    Calls Tryd.prog 12 #[.agg #[.int .i64 t, .int .i64 p], .int .i64 n] w fun e w' =>
      e = .returned (.tuple #[.int .i64 (fbl t p n).1, .bool (fbl t p n).2]) ∧ Below w.heap.size w w' :=
  iFirstBelow_any t p n (seqOf t p (nx t p) n) (fun bw bs => iter_step bw bs t p n) w
end Go.Proofs.YtmocbkpfoddffaaDoor
