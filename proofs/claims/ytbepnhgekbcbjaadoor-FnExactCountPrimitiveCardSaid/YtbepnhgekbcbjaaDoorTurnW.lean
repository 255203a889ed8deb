/-
  'leastTurn', 'TurnWord', 'LeastTurn' of the program; 'cyTurned', 'cyFirst', 'TurnWord', 'LeastTurn' of the model.
-/
import Derived.Test.YtbepnhgekbcbjaaDoorTurn
namespace Go.Proofs.YtbepnhgekbcbjaaDoor
open Go.RowKit
set_option linter.unusedVariables false

theorem cyTurned_any (l : List UInt8) (k : Nat) (w : World) (hl : l.length ≤ 10) (hk : k ≤ l.length) :
    Calls Tryd.prog 34 #[.string (bts l), .int .i64 (k : Int)] w fun e w' => e = .returned (.string (bts (rotL l k))) ∧ Below w.heap.size w w' := by
  have hs := bts_size l
  have hz : ((bts l).size : Int) ≤ 10 := by omega
  have hk1 : (k : Int) ≤ (bts l).size := by omega
  have hk2 : k ≤ (bts l).size := by omega
  have hd := bts_drop l k
  have ht := bts_take l k
  have hc := fun w => bts_cat (l.drop k) (l.take k) (by simp; omega) w
  have HR : Hid (rotL l k = l.drop k ++ l.take k) := Lib.hid rfl
  generalize rotL l k = r at HR ⊢
  generalize l.drop k = a at hd hc HR
  generalize l.take k = b at ht hc HR
  clear hl hk hs
  generalize bts l = s at *
  go_enter Tryd.func34, Tryd.ntmps34
  go_wp2
  go_region
  go_wp2
  go_ret
  exact ⟨by rw [HR.out]; rfl, (Below.refl _ _).drew⟩

theorem iter_kept {w w' : World} {k : Nat} {o : Obj} (h : w.heap[k]? = some o) (hb : Below w.heap.size w w') : w'.heap[k]? = some o :=
  (hb.block k (Array.getElem?_eq_some_iff.1 h).1).trans h
theorem iterPos_is {w : World} {k : Nat} {s : ByteArray} {pos : Nat} (h : w.heap[k]? = some (.stringIter s pos)) : w.iterPos k = pos := by
  unfold World.iterPos; rw [h]
theorem sign_ascii {s : ByteArray} (hs : Signs s.data.toList) {k : Nat} (hk : k < s.size) : s[k].toNat < 128 := by
  rcases hs s[k] (List.getElem_mem (l := s.data.toList) (n := k) (by simpa using hk)) with h | h <;> (rw [h]; decide)

set_option maxRecDepth 100000 in
set_option maxHeartbeats 2000000 in
theorem leastTurn_any (s : ByteArray) (w : World) (hl : s.size ≤ 10) (hs : Signs s.data.toList) :
    Calls Tryd.prog 32 #[.string s] w fun e w' => e = .returned (.string (bts (leastT s.data.toList))) ∧ Below w.heap.size w w' := by
  have HS := Lib.hid hs
  have hlen : s.data.toList.length = s.size := by simp
  have HT := Lib.hid (fun (k : Nat) (w : World) (hk : k ≤ s.data.toList.length) => turn_any s.data.toList k w (by omega) hk)
  have HLE : Hid (leastT s.data.toList = ltk s.data.toList s.size) := Lib.hid (by rw [leastT, hlen])
  have HLEN := Lib.hid hlen
  have hz : (s.size : Int) ≤ 10 := by omega
  clear hs hlen
  go_enter Tryd.func32, Tryd.ntmps32
  go_wp2
  go_loopw [3] (fun x wr => ∃ pos : Nat, pos ≤ s.size ∧ x = .string (bts (ltk s.data.toList pos)) ∧ wr.heap[w.heap.size]? = some (.stringIter s pos) ∧ Below w.heap.size w wr) (fun _ wr => s.size - wr.iterPos w.heap.size)
  case atStart => exact ⟨0, Nat.zero_le _, rfl, World.iter_heap _ _ _, below_iter w s 0⟩
  case round =>
    obtain ⟨pos, hp, rfl, hit, hbel⟩ := hrel
    have HIT := Lib.hid hit
    have HB := Lib.hid hbel
    clear hit hbel
    by_cases hlt : pos < s.size
    · have hnx : ∀ ty, (Instr.next (.pointer (some ⟨w.heap.size, 0, none⟩)) true ty).run Tryd.prog wr = _ := fun ty => Lib.run_next_ascii_at wr _ s pos ty HIT.out hlt (sign_ascii HS.out hlt)
      have HST : Hid (ltk s.data.toList (pos + 1) = if rotL s.data.toList pos < ltk s.data.toList pos then rotL s.data.toList pos else ltk s.data.toList pos) := Lib.hid rfl
      have HTP := Lib.hid (fun w => HT.out pos w (by have := HLEN.out; omega))
      have HI2 := Lib.hid (Lib.iterAt_heap _ _ _ _ (pos + 1) HIT.out)
      generalize ltk s.data.toList pos = a at *
      generalize rotL s.data.toList pos = b at *
      have hmin : ∀ w, (Builtin.min_ #[9, 9] 9 #[.string (bts a), .string (bts b)]).run Tryd.prog w = .ok (.string (bts (if b < a then b else a))) w := fun w => by rw [Lib.run_min_strs, min_bts]
      rw [← HST.out] at hmin
      go_wp2_with fail
      refine (HTP.out _).mono ?_
      rintro e w2 ⟨rfl, hb2⟩
      have HI3 := Lib.hid (iter_kept HI2.out hb2)
      have HB3 := Lib.hid ((Lib.below_iterAt HB.out (Nat.le_refl _) s (pos + 1)).trans (hb2.mono (Lib.below_iterAt HB.out (Nat.le_refl _) s (pos + 1)).size))
      clear hb2
      go_wp2_with fail
      refine ⟨⟨pos + 1, hlt, rfl, HI3.out, HB3.out⟩, ?_⟩
      rw [iterPos_is HI3.out, iterPos_is HIT.out]; omega
    · obtain rfl : pos = s.size := by omega
      have hnx : ∀ ty, (Instr.next (.pointer (some ⟨w.heap.size, 0, none⟩)) true ty).run Tryd.prog wr = _ := fun ty => Lib.run_next_end_at wr _ s s.size ty HIT.out hlt
      go_wp2_with fail
      go_ret
      exact ⟨by rw [HLE.out]; rfl, HB.out⟩

set_option maxRecDepth 100000 in
set_option maxHeartbeats 2000000 in
theorem cyFirst_any (s : ByteArray) (w : World) (hl : s.size ≤ 10) (hs : Signs s.data.toList) :
    Calls Tryd.prog 26 #[.string s] w fun e w' => e = .returned (.string (bts (leastT s.data.toList))) ∧ Below w.heap.size w w' := by
  have HS := Lib.hid hs
  have hlen : s.data.toList.length = s.size := by simp
  have HT := Lib.hid (fun (k : Nat) (w : World) (hk : k ≤ s.data.toList.length) => cyTurned_any s.data.toList k w (by omega) hk)
  have HLE : Hid (leastT s.data.toList = ltk s.data.toList s.size) := Lib.hid (by rw [leastT, hlen])
  have HLEN := Lib.hid hlen
  have hz : (s.size : Int) ≤ 10 := by omega
  clear hs hlen
  go_enter Tryd.func26, Tryd.ntmps26
  go_wp2
  go_loopw [3] (fun x wr => ∃ pos : Nat, pos ≤ s.size ∧ x = .string (bts (ltk s.data.toList pos)) ∧ wr.heap[w.heap.size]? = some (.stringIter s pos) ∧ Below w.heap.size w wr) (fun _ wr => s.size - wr.iterPos w.heap.size)
  case atStart => exact ⟨0, Nat.zero_le _, rfl, World.iter_heap _ _ _, below_iter w s 0⟩
  case round =>
    obtain ⟨pos, hp, rfl, hit, hbel⟩ := hrel
    have HIT := Lib.hid hit
    have HB := Lib.hid hbel
    clear hit hbel
    by_cases hlt : pos < s.size
    · have hnx : ∀ ty, (Instr.next (.pointer (some ⟨w.heap.size, 0, none⟩)) true ty).run Tryd.prog wr = _ := fun ty => Lib.run_next_ascii_at wr _ s pos ty HIT.out hlt (sign_ascii HS.out hlt)
      have HST : Hid (ltk s.data.toList (pos + 1) = if rotL s.data.toList pos < ltk s.data.toList pos then rotL s.data.toList pos else ltk s.data.toList pos) := Lib.hid rfl
      have HTP := Lib.hid (fun w => HT.out pos w (by have := HLEN.out; omega))
      have HI2 := Lib.hid (Lib.iterAt_heap _ _ _ _ (pos + 1) HIT.out)
      generalize ltk s.data.toList pos = a at *
      generalize rotL s.data.toList pos = b at *
      have hcmp : Op.bytesLess (bts b).toList (bts a).toList = decide (b < a) := by
        simp [Proofs.bytesLess_eq, Lib.toList_data, bts_list]
      by_cases hba : b < a
      · rw [if_pos hba] at HST
        have hdc : decide (b < a) = true := by simpa using hba
        rw [hdc] at hcmp
        clear hba hdc
        go_wp2_with fail
        refine (HTP.out _).mono ?_
        rintro e w2 ⟨rfl, hb2⟩
        have HI3 := Lib.hid (iter_kept HI2.out hb2)
        have HB3 := Lib.hid ((Lib.below_iterAt HB.out (Nat.le_refl _) s (pos + 1)).trans (hb2.mono (Lib.below_iterAt HB.out (Nat.le_refl _) s (pos + 1)).size))
        clear hb2
        go_wp2_with fail
        refine ⟨⟨pos + 1, hlt, by rw [HST.out], HI3.out, HB3.out⟩, ?_⟩
        rw [iterPos_is HI3.out, iterPos_is HIT.out]; omega
      · rw [if_neg hba] at HST
        have hdc : decide (b < a) = false := by simpa using hba
        rw [hdc] at hcmp
        clear hba hdc
        go_wp2_with fail
        refine (HTP.out _).mono ?_
        rintro e w2 ⟨rfl, hb2⟩
        have HI3 := Lib.hid (iter_kept HI2.out hb2)
        have HB3 := Lib.hid ((Lib.below_iterAt HB.out (Nat.le_refl _) s (pos + 1)).trans (hb2.mono (Lib.below_iterAt HB.out (Nat.le_refl _) s (pos + 1)).size))
        clear hb2
        go_wp2_with fail
        refine ⟨⟨pos + 1, hlt, by rw [HST.out], HI3.out, HB3.out⟩, ?_⟩
        rw [iterPos_is HI3.out, iterPos_is HIT.out]; omega
    · obtain rfl : pos = s.size := by omega
      have hnx : ∀ ty, (Instr.next (.pointer (some ⟨w.heap.size, 0, none⟩)) true ty).run Tryd.prog wr = _ := fun ty => Lib.run_next_end_at wr _ s s.size ty HIT.out hlt
      go_wp2_with fail
      go_ret
      exact ⟨by rw [HLE.out]; rfl, HB.out⟩
end Go.Proofs.YtbepnhgekbcbjaaDoor
