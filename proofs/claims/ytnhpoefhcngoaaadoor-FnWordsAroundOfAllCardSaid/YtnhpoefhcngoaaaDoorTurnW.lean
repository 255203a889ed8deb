/-
  'leastTurn', 'TurnWord', 'LeastTurn' of the program; 'cyTurned', 'cyFirst', 'TurnWord', 'LeastTurn' of the model.
  'TurnWord', 'LeastTurn' of both.
  WHICH WORDS ARE PRIMITIVE, of both.
-/
import Derived.Test.YtnhpoefhcngoaaaDoorTurn
import Derived.HandedShaped
namespace Go.Proofs.YtnhpoefhcngoaaaDoor
open Go.RowKit
set_option linter.unusedVariables false

theorem cyTurned_any (l : List UInt8) (k : Nat) (w : World) (hl : l.length ≤ 10) (hk : k ≤ l.length) :
    Calls Tryd.prog 41 #[.string (bts l), .int .i64 (k : Int)] w fun e w' => e = .returned (.string (bts (rotL l k))) ∧ Below w.heap.size w w' := by
  have hs := bts_size l
  have hz : ((bts l).size : Int) ≤ 10 := by omega
  have hk1 : (k : Int) ≤ (bts l).size := by omega
  have hk2 : k ≤ (bts l).size := by omega
  have hd := bts_drop l k
  have ht := bts_take l k
  have hc := fun w => bts_cat (l.drop k) (l.take k) (by simp; omega) w
  have HR : Hid (rotL l k = l.drop k ++ l.take k) := Lib.hid rfl
  generalize rotL l k = r at HR ⊢
  generalize l.drop k = a at hd hc HR
  generalize l.take k = b at ht hc HR
  clear hl hk hs
  generalize bts l = s at *
  go_enter Tryd.func41, Tryd.ntmps41
  go_wp2
  go_region
  go_wp2
  go_ret
  exact ⟨by rw [HR.out]; rfl, (Below.refl _ _).drew⟩

theorem iter_kept {w w' : World} {k : Nat} {o : Obj} (h : w.heap[k]? = some o) (hb : Below w.heap.size w w') : w'.heap[k]? = some o :=
  (hb.block k (Array.getElem?_eq_some_iff.1 h).1).trans h
theorem iterPos_is {w : World} {k : Nat} {s : ByteArray} {pos : Nat} (h : w.heap[k]? = some (.stringIter s pos)) : w.iterPos k = pos := by
  unfold World.iterPos; rw [h]
theorem sign_ascii {s : ByteArray} (hs : Signs s.data.toList) {k : Nat} (hk : k < s.size) : s[k].toNat < 128 := by
  rcases hs s[k] (List.getElem_mem (l := s.data.toList) (n := k) (by simpa using hk)) with h | h <;> (rw [h]; decide)

set_option maxRecDepth 100000 in
set_option maxHeartbeats 2000000 in
theorem leastTurn_any (s : ByteArray) (w : World) (hl : s.size ≤ 10) (hs : Signs s.data.toList) :
    Calls Tryd.prog 42 #[.string s] w fun e w' => e = .returned (.string (bts (leastT s.data.toList))) ∧ Below w.heap.size w w' := by
  have HS := Lib.hid hs
  have hlen : s.data.toList.length = s.size := by simp
  have HT := Lib.hid (fun (k : Nat) (w : World) (hk : k ≤ s.data.toList.length) => turn_any s.data.toList k w (by omega) hk)
  have HLE : Hid (leastT s.data.toList = ltk s.data.toList s.size) := Lib.hid (by rw [leastT, hlen])
  have HLEN := Lib.hid hlen
  have hz : (s.size : Int) ≤ 10 := by omega
  clear hs hlen
  go_enter Tryd.func42, Tryd.ntmps42
  go_wp2
  go_loopw [3] (fun x wr => ∃ pos : Nat, pos ≤ s.size ∧ x = .string (bts (ltk s.data.toList pos)) ∧ wr.heap[w.heap.size]? = some (.stringIter s pos) ∧ Below w.heap.size w wr) (fun _ wr => s.size - wr.iterPos w.heap.size)
  case atStart => exact ⟨0, Nat.zero_le _, rfl, World.iter_heap _ _ _, below_iter w s 0⟩
  case round =>
    obtain ⟨pos, hp, rfl, hit, hbel⟩ := hrel
    have HIT := Lib.hid hit
    have HB := Lib.hid hbel
    clear hit hbel
    by_cases hlt : pos < s.size
    · have hnx : ∀ ty, (Instr.next (.pointer (some ⟨w.heap.size, 0, none⟩)) true ty).run Tryd.prog wr = _ := fun ty => Lib.run_next_ascii_at wr _ s pos ty HIT.out hlt (sign_ascii HS.out hlt)
      have HST : Hid (ltk s.data.toList (pos + 1) = if rotL s.data.toList pos < ltk s.data.toList pos then rotL s.data.toList pos else ltk s.data.toList pos) := Lib.hid rfl
      have HTP := Lib.hid (fun w => HT.out pos w (by have := HLEN.out; omega))
      have HI2 := Lib.hid (Lib.iterAt_heap _ _ _ _ (pos + 1) HIT.out)
      generalize ltk s.data.toList pos = a at *
      generalize rotL s.data.toList pos = b at *
      have hmin : ∀ w, (Builtin.min_ #[9, 9] 9 #[.string (bts a), .string (bts b)]).run Tryd.prog w = .ok (.string (bts (if b < a then b else a))) w := fun w => by rw [Lib.run_min_strs, min_bts]
      rw [← HST.out] at hmin
      go_wp2_with fail
      refine (HTP.out _).mono ?_
      rintro e w2 ⟨rfl, hb2⟩
      have HI3 := Lib.hid (iter_kept HI2.out hb2)
      have HB3 := Lib.hid ((Lib.below_iterAt HB.out (Nat.le_refl _) s (pos + 1)).trans (hb2.mono (Lib.below_iterAt HB.out (Nat.le_refl _) s (pos + 1)).size))
      clear hb2
      go_wp2_with fail
      refine ⟨⟨pos + 1, hlt, rfl, HI3.out, HB3.out⟩, ?_⟩
      rw [iterPos_is HI3.out, iterPos_is HIT.out]; omega
    · obtain rfl : pos = s.size := by omega
      have hnx : ∀ ty, (Instr.next (.pointer (some ⟨w.heap.size, 0, none⟩)) true ty).run Tryd.prog wr = _ := fun ty => Lib.run_next_end_at wr _ s s.size ty HIT.out hlt
      go_wp2_with fail
      go_ret
      exact ⟨by rw [HLE.out]; rfl, HB.out⟩

set_option maxRecDepth 100000 in
set_option maxHeartbeats 2000000 in
theorem cyFirst_any (s : ByteArray) (w : World) (hl : s.size ≤ 10) (hs : Signs s.data.toList) :
    Calls Tryd.prog 43 #[.string s] w fun e w' => e = .returned (.string (bts (leastT s.data.toList))) ∧ Below w.heap.size w w' := by
  have HS := Lib.hid hs
  have hlen : s.data.toList.length = s.size := by simp
  have HT := Lib.hid (fun (k : Nat) (w : World) (hk : k ≤ s.data.toList.length) => cyTurned_any s.data.toList k w (by omega) hk)
  have HLE : Hid (leastT s.data.toList = ltk s.data.toList s.size) := Lib.hid (by rw [leastT, hlen])
  have HLEN := Lib.hid hlen
  have hz : (s.size : Int) ≤ 10 := by omega
  clear hs hlen
  go_enter Tryd.func43, Tryd.ntmps43
  go_wp2
  go_loopw [3] (fun x wr => ∃ pos : Nat, pos ≤ s.size ∧ x = .string (bts (ltk s.data.toList pos)) ∧ wr.heap[w.heap.size]? = some (.stringIter s pos) ∧ Below w.heap.size w wr) (fun _ wr => s.size - wr.iterPos w.heap.size)
  case atStart => exact ⟨0, Nat.zero_le _, rfl, World.iter_heap _ _ _, below_iter w s 0⟩
  case round =>
    obtain ⟨pos, hp, rfl, hit, hbel⟩ := hrel
    have HIT := Lib.hid hit
    have HB := Lib.hid hbel
    clear hit hbel
    by_cases hlt : pos < s.size
    · have hnx : ∀ ty, (Instr.next (.pointer (some ⟨w.heap.size, 0, none⟩)) true ty).run Tryd.prog wr = _ := fun ty => Lib.run_next_ascii_at wr _ s pos ty HIT.out hlt (sign_ascii HS.out hlt)
      have HST : Hid (ltk s.data.toList (pos + 1) = if rotL s.data.toList pos < ltk s.data.toList pos then rotL s.data.toList pos else ltk s.data.toList pos) := Lib.hid rfl
      have HTP := Lib.hid (fun w => HT.out pos w (by have := HLEN.out; omega))
      have HI2 := Lib.hid (Lib.iterAt_heap _ _ _ _ (pos + 1) HIT.out)
      generalize ltk s.data.toList pos = a at *
      generalize rotL s.data.toList pos = b at *
      have hcmp : Op.bytesLess (bts b).toList (bts a).toList = decide (b < a) := by
        simp [Proofs.bytesLess_eq, Lib.toList_data, bts_list]
      by_cases hba : b < a
      · rw [if_pos hba] at HST
        have hdc : decide (b < a) = true := by simpa using hba
        rw [hdc] at hcmp
        clear hba hdc
        go_wp2_with fail
        refine (HTP.out _).mono ?_
        rintro e w2 ⟨rfl, hb2⟩
        have HI3 := Lib.hid (iter_kept HI2.out hb2)
        have HB3 := Lib.hid ((Lib.below_iterAt HB.out (Nat.le_refl _) s (pos + 1)).trans (hb2.mono (Lib.below_iterAt HB.out (Nat.le_refl _) s (pos + 1)).size))
        clear hb2
        go_wp2_with fail
        refine ⟨⟨pos + 1, hlt, by rw [HST.out], HI3.out, HB3.out⟩, ?_⟩
        rw [iterPos_is HI3.out, iterPos_is HIT.out]; omega
      · rw [if_neg hba] at HST
        have hdc : decide (b < a) = false := by simpa using hba
        rw [hdc] at hcmp
        clear hba hdc
        go_wp2_with fail
        refine (HTP.out _).mono ?_
        rintro e w2 ⟨rfl, hb2⟩
        have HI3 := Lib.hid (iter_kept HI2.out hb2)
        have HB3 := Lib.hid ((Lib.below_iterAt HB.out (Nat.le_refl _) s (pos + 1)).trans (hb2.mono (Lib.below_iterAt HB.out (Nat.le_refl _) s (pos + 1)).size))
        clear hb2
        go_wp2_with fail
        refine ⟨⟨pos + 1, hlt, by rw [HST.out], HI3.out, HB3.out⟩, ?_⟩
        rw [iterPos_is HI3.out, iterPos_is HIT.out]; omega
    · obtain rfl : pos = s.size := by omega
      have hnx : ∀ ty, (Instr.next (.pointer (some ⟨w.heap.size, 0, none⟩)) true ty).run Tryd.prog wr = _ := fun ty => Lib.run_next_end_at wr _ s s.size ty HIT.out hlt
      go_wp2_with fail
      go_ret
      exact ⟨by rw [HLE.out]; rfl, HB.out⟩
end Go.Proofs.YtnhpoefhcngoaaaDoor

namespace Go.Proofs.YtnhpoefhcngoaaaDoor
open Go.RowKit
set_option linter.unusedVariables false

/-- What TurnWord comes to. -/
def twn (s : ByteArray) (k : Int) : ByteArray × Bool := if turnB s = true ∧ 0 ≤ k ∧ k < s.size then (bts (rotL s.data.toList k.toNat), true) else (⟨#[]⟩, false)
/-- What LeastTurn comes to. -/
def ltn (s : ByteArray) : ByteArray × Bool := if turnB s = true then (bts (leastT s.data.toList), true) else (⟨#[]⟩, false)
theorem ret_sbt {x : ByteArray × Bool} {y : ByteArray} {b : Bool} (h : x = (y, b)) : Ending.returned (.tuple #[.string y, .bool b]) = .returned (.tuple #[.string x.1, .bool x.2]) := by rw [h]
theorem clone_t (s : ByteArray) (w : World) (h : s.size ≤ 281474976710656) :
    Calls Tryd.prog 35 #[.string s] w fun e w' => e = .returned (.string s) ∧ Below w.heap.size w w' := by
  have HC := Lib.hid (fun w => Tryd.stringslite_Clone s w h)
  clear h
  go_enter Tryd.func35, Tryd.ntmps35
  go_wp2_with fail
  refine (HC.out _).mono ?_
  rintro e w1 ⟨rfl, hb⟩
  go_wp2_with fail
  go_ret
  exact ⟨rfl, hb⟩
theorem rot_size {s : ByteArray} (hz : s.size ≤ 10) (k : Nat) : (bts (rotL s.data.toList k)).size ≤ 281474976710656 := by
  rw [bts_size, rotL_length]
  have : s.data.toList.length = s.size := by simp
  omega
theorem least_size {s : ByteArray} (hz : s.size ≤ 10) : (bts (leastT s.data.toList)).size ≤ 281474976710656 := by
  rw [bts_size, leastT, ltk_length]
  have : s.data.toList.length = s.size := by simp
  omega

set_option maxHeartbeats 1000000 in
theorem sTurnWord (s : ByteArray) (k : Int) (w : World) :
    Calls Tryd.prog 17 #[.string s, .int .i64 k] w fun e w' => e = .returned (.tuple #[.string (twn s k).1, .bool (twn s k).2]) ∧ Below w.heap.size w w' := by
  have HW := Lib.hid (fun w => cyWord_any s w)
  cases hw : turnB s
  · have HY : Hid (twn s k = (⟨#[]⟩, false)) := Lib.hid (by rw [twn, if_neg (by simp [hw])])
    rw [hw] at HW
    clear hw
    go_enter Tryd.func17, Tryd.ntmps17
    go_wp2_with (go_at_call 28; refine (HW.out _).mono ?_; rintro e w' ⟨rfl, rfl⟩)
    go_ret2
    exact ⟨ret_sbt HY.out, Below.refl _ _⟩
  · obtain ⟨z0, z1, hs⟩ := turnB_iff.1 hw
    have hz1 : (s.size : Int) ≤ 10 := by omega
    have hz0 : (1 : Int) ≤ s.size := by omega
    have HI := Lib.hid (fun w => l1In_any k 0 ((s.size : Int) - 1) w)
    by_cases hk : 0 ≤ k ∧ k < s.size
    · have HY : Hid (twn s k = (bts (rotL s.data.toList k.toNat), true)) := Lib.hid (by rw [twn, if_pos ⟨hw, hk.1, hk.2⟩])
      rw [show inB k 0 ((s.size : Int) - 1) = true by simp [inB]; omega] at HI
      rw [hw] at HW
      obtain ⟨K, rfl⟩ : ∃ K : Nat, k = K := ⟨k.toNat, by omega⟩
      have hlen : s.data.toList.length = s.size := by simp
      have HT := Lib.hid (fun w => cyTurned_any s.data.toList K w (by omega) (by omega))
      clear hw hs hk hlen
      go_enter Tryd.func17, Tryd.ntmps17
      go_wp2_with (first | (go_at_call 28; refine (HW.out _).mono ?_; rintro e w' ⟨rfl, rfl⟩) | (go_at_call 39; refine (HI.out _).mono ?_; rintro e w' ⟨rfl, rfl⟩))
      refine (HT.out _).mono ?_
      rintro e w2 ⟨rfl, hb2⟩
      go_wp2_with fail
      go_ret2
      exact ⟨ret_sbt HY.out, hb2⟩
    · have HY : Hid (twn s k = (⟨#[]⟩, false)) := Lib.hid (by rw [twn, if_neg (fun h => hk h.2)])
      rw [show inB k 0 ((s.size : Int) - 1) = false by simp [inB]; omega] at HI
      rw [hw] at HW
      clear hw hs hk
      go_enter Tryd.func17, Tryd.ntmps17
      go_wp2_with (first | (go_at_call 28; refine (HW.out _).mono ?_; rintro e w' ⟨rfl, rfl⟩) | (go_at_call 39; refine (HI.out _).mono ?_; rintro e w' ⟨rfl, rfl⟩))
      go_ret2
      exact ⟨ret_sbt HY.out, Below.refl _ _⟩

set_option maxHeartbeats 1000000 in
theorem iTurnWord (s : ByteArray) (k : Int) (w : World) :
    Calls Tryd.prog 11 #[.string s, .int .i64 k] w fun e w' => e = .returned (.tuple #[.string (twn s k).1, .bool (twn s k).2]) ∧ Below w.heap.size w w' := by
  have HW := Lib.hid (fun w => isTurnWord_any s w)
  cases hw : turnB s
  · have HY : Hid (twn s k = (⟨#[]⟩, false)) := Lib.hid (by rw [twn, if_neg (by simp [hw])])
    rw [hw] at HW
    clear hw
    go_enter Tryd.func11, Tryd.ntmps11
    go_wp2_with fail
    refine (HW.out _).mono ?_
    rintro e w1 ⟨rfl, hb1⟩
    go_wp2_with fail
    go_ret2
    exact ⟨ret_sbt HY.out, hb1⟩
  · obtain ⟨z0, z1, hs⟩ := turnB_iff.1 hw
    have hz1 : (s.size : Int) ≤ 10 := by omega
    have hz0 : (1 : Int) ≤ s.size := by omega
    rw [hw] at HW
    by_cases hk0 : k < 0
    · have HY : Hid (twn s k = (⟨#[]⟩, false)) := Lib.hid (by rw [twn, if_neg (fun h => by have := h.2.1; omega)])
      have hd0 : decide (k < 0) = true := by simpa using hk0
      clear hw hs
      go_enter Tryd.func11, Tryd.ntmps11
      go_wp2_with fail
      refine (HW.out _).mono ?_
      rintro e w1 ⟨rfl, hb1⟩
      go_wp2_with fail
      go_ret2
      exact ⟨ret_sbt HY.out, hb1⟩
    · have hd0 : decide (k < 0) = false := by simpa using hk0
      by_cases hk1 : k < s.size
      · have HY : Hid (twn s k = (bts (rotL s.data.toList k.toNat), true)) := Lib.hid (by rw [twn, if_pos ⟨hw, by omega, hk1⟩])
        obtain ⟨K, rfl⟩ : ∃ K : Nat, k = K := ⟨k.toNat, by omega⟩
        have hlen : s.data.toList.length = s.size := by simp
        have HT := Lib.hid (fun w => turn_any s.data.toList K w (by omega) (by omega))
        have HC := Lib.hid (fun w => clone_t (bts (rotL s.data.toList K)) w (rot_size z1 K))
        have hK : K < s.size := by omega
        have hd1 : decide (s.size ≤ K) = false := by simpa using hK
        clear hw hs hlen
        go_enter Tryd.func11, Tryd.ntmps11
        go_wp2_with fail
        refine (HW.out _).mono ?_
        rintro e w1 ⟨rfl, hb1⟩
        go_wp2_with fail
        refine (HT.out _).mono ?_
        rintro e w2 ⟨rfl, hb2⟩
        have HB2 := Lib.hid (hb1.trans (hb2.mono hb1.size))
        clear hb2 hb1
        go_wp2_with fail
        refine (HC.out _).mono ?_
        rintro e w3 ⟨rfl, hb3⟩
        have HB3 := Lib.hid (HB2.out.trans (hb3.mono HB2.out.size))
        clear hb3
        go_wp2_with fail
        go_ret2
        exact ⟨ret_sbt HY.out, HB3.out⟩
      · have HY : Hid (twn s k = (⟨#[]⟩, false)) := Lib.hid (by rw [twn, if_neg (fun h => hk1 h.2.2)])
        obtain ⟨K, rfl⟩ : ∃ K : Nat, k = K := ⟨k.toNat, by omega⟩
        have hK : s.size ≤ K := by omega
        have hd1 : decide (s.size ≤ K) = true := by simpa using hK
        clear hw hs
        go_enter Tryd.func11, Tryd.ntmps11
        go_wp2_with fail
        refine (HW.out _).mono ?_
        rintro e w1 ⟨rfl, hb1⟩
        go_wp2_with fail
        go_ret2
        exact ⟨ret_sbt HY.out, hb1⟩

set_option maxHeartbeats 1000000 in
theorem sLeastTurn (s : ByteArray) (w : World) :
    Calls Tryd.prog 19 #[.string s] w fun e w' => e = .returned (.tuple #[.string (ltn s).1, .bool (ltn s).2]) ∧ Below w.heap.size w w' := by
  have HW := Lib.hid (fun w => cyWord_any s w)
  cases hw : turnB s
  · have HY : Hid (ltn s = (⟨#[]⟩, false)) := Lib.hid (by rw [ltn, if_neg (by simp [hw])])
    rw [hw] at HW
    clear hw
    go_enter Tryd.func19, Tryd.ntmps19
    go_wp2_with (go_at_call 28; refine (HW.out _).mono ?_; rintro e w' ⟨rfl, rfl⟩)
    go_ret2
    exact ⟨ret_sbt HY.out, Below.refl _ _⟩
  · obtain ⟨z0, z1, hs⟩ := turnB_iff.1 hw
    have HY : Hid (ltn s = (bts (leastT s.data.toList), true)) := Lib.hid (by rw [ltn, if_pos hw])
    have HT := Lib.hid (fun w => cyFirst_any s w z1 hs)
    rw [hw] at HW
    clear hw hs
    go_enter Tryd.func19, Tryd.ntmps19
    go_wp2_with (go_at_call 28; refine (HW.out _).mono ?_; rintro e w' ⟨rfl, rfl⟩)
    refine (HT.out _).mono ?_
    rintro e w2 ⟨rfl, hb2⟩
    go_wp2_with fail
    go_ret2
    exact ⟨ret_sbt HY.out, hb2⟩

set_option maxHeartbeats 1000000 in
theorem iLeastTurn (s : ByteArray) (w : World) :
    Calls Tryd.prog 18 #[.string s] w fun e w' => e = .returned (.tuple #[.string (ltn s).1, .bool (ltn s).2]) ∧ Below w.heap.size w w' := by
  have HW := Lib.hid (fun w => isTurnWord_any s w)
  cases hw : turnB s
  · have HY : Hid (ltn s = (⟨#[]⟩, false)) := Lib.hid (by rw [ltn, if_neg (by simp [hw])])
    rw [hw] at HW
    clear hw
    go_enter Tryd.func18, Tryd.ntmps18
    go_wp2_with fail
    refine (HW.out _).mono ?_
    rintro e w1 ⟨rfl, hb1⟩
    go_wp2_with fail
    go_ret2
    exact ⟨ret_sbt HY.out, hb1⟩
  · obtain ⟨z0, z1, hs⟩ := turnB_iff.1 hw
    have HY : Hid (ltn s = (bts (leastT s.data.toList), true)) := Lib.hid (by rw [ltn, if_pos hw])
    have HT := Lib.hid (fun w => leastTurn_any s w z1 hs)
    have HC := Lib.hid (fun w => clone_t (bts (leastT s.data.toList)) w (least_size z1))
    rw [hw] at HW
    clear hw hs
    go_enter Tryd.func18, Tryd.ntmps18
    go_wp2_with fail
    refine (HW.out _).mono ?_
    rintro e w1 ⟨rfl, hb1⟩
    go_wp2_with fail
    refine (HT.out _).mono ?_
    rintro e w2 ⟨rfl, hb2⟩
    have HB2 := Lib.hid (hb1.trans (hb2.mono hb1.size))
    clear hb2 hb1
    go_wp2_with fail
    refine (HC.out _).mono ?_
    rintro e w3 ⟨rfl, hb3⟩
    have HB3 := Lib.hid (HB2.out.trans (hb3.mono HB2.out.size))
    clear hb3
    go_wp2_with fail
    go_ret2
    exact ⟨ret_sbt HY.out, HB3.out⟩

end Go.Proofs.YtnhpoefhcngoaaaDoor

namespace Go.Proofs.YtnhpoefhcngoaaaDoor
open Go.RowKit
set_option linter.unusedVariables false

/-- The library's variable 'MaxLen' holds some number. -/
def TabM (W : World) : Prop := ∃ m, W.cell? ⟨1, 0, none⟩ = some (.int .i64 m)
theorem globM : 1 < Tryd.prog.globals.size := by decide +kernel
theorem tabM_below {w w' : World} (h : TabM w) {B : Nat} (hb : Below B w w') (hB : 1 < B) : TabM w' := by
  obtain ⟨m, hm⟩ := h
  exact ⟨m, (hb.cell (p := ⟨1, 0, none⟩) hB).trans hm⟩
theorem tabM_lt {w : World} (h : TabM w) : 1 < w.heap.size := by
  obtain ⟨m, hm⟩ := h
  unfold World.cell? at hm
  cases hh : w.heap[1]? with
  | none => simp [hh] at hm
  | some o => exact (Array.getElem?_eq_some_iff.1 hh).1
theorem tabM_of_shaped {w : World} (h : w.ShapedOpen Tryd.prog) : TabM w := Tryd.laysM143.s1_3 w h

set_option maxHeartbeats 1000000 in
theorem isPrimitive_any (l : List UInt8) (w : World) (h1 : 1 ≤ l.length) (hl : l.length ≤ 10) (hm : TabM w) :
    Calls Tryd.prog 44 #[.string (bts l)] w fun e w' => e = .returned (.bool (primB l)) ∧ w = w' := by
  obtain ⟨m, hm⟩ := hm
  have HX := Lib.hid (fun w hm => Tryd.strings_Index (bts (l.drop 1 ++ l)) (bts l) m w (by rw [bts_size]; simp; omega) hm)
  simp only [bts_list] at HX
  have HP := Lib.hid (index_prim h1)
  have HM := Lib.hid hm
  have hs := bts_size l
  have hz : ((bts l).size : Int) ≤ 10 := by omega
  have hz0 : (1 : Int) ≤ (bts l).size := by omega
  have hz2 : 1 ≤ (bts l).size := by omega
  have hd := bts_drop l 1
  have hc := fun w => bts_cat (l.drop 1) l (by simp; omega) w
  have hll : (l.length : Int) = (bts l).size := by omega
  rw [hll] at HP
  generalize Lib.index (l.drop 1 ++ l) l = ix at HX HP
  generalize l.drop 1 = a at hd hc HX
  clear hm h1 hl hs hll
  go_enter Tryd.func44, Tryd.ntmps44
  go_wp2_with (go_at_call 57; refine (HX.out _ HM.out).mono ?_; rintro e w' ⟨rfl, rfl⟩)
  go_ret
  exact ⟨by rw [← HP.out]; rfl, rfl⟩

set_option maxRecDepth 100000 in
set_option maxHeartbeats 2000000 in
theorem cyPrimitive_any (l : List UInt8) (w : World) (h1 : 1 ≤ l.length) (hl : l.length ≤ 10) :
    Calls Tryd.prog 45 #[.string (bts l)] w fun e w' => e = .returned (.bool (primB l)) ∧ Below w.heap.size w w' := by
  have HT := Lib.hid (fun (k : Nat) (w : World) (hk : k ≤ l.length) => cyTurned_any l k w hl hk)
  have hs := bts_size l
  have HLEN := Lib.hid hs
  have hz : ((bts l).size : Int) ≤ 10 := by omega
  have hz0 : (1 : Int) ≤ (bts l).size := by omega
  clear hs
  go_enter Tryd.func45, Tryd.ntmps45
  go_wp2
  go_loopw [3] (fun x wr => ∃ k : Nat, 1 ≤ k ∧ k ≤ l.length ∧ x = .int .i64 k ∧ (∀ j, 1 ≤ j → j < k → rotL l j ≠ l) ∧ Below w.heap.size w wr) (fun x _ => l.length - (intOf x).toNat)
  case atStart => exact ⟨1, Nat.le_refl _, h1, rfl, fun j h2 h3 => by omega, Below.refl _ _⟩
  case round =>
    obtain ⟨k, hk1, hk2, rfl, hno, hbel⟩ := hrel
    have HNO := Lib.hid hno
    have HB := Lib.hid hbel
    clear hno hbel
    by_cases hlt : k < l.length
    · have hlt2 : (k : Int) < (bts l).size := by have := HLEN.out; omega
      have HTK := Lib.hid (fun w => HT.out k w hk2)
      by_cases he : rotL l k = l
      · have HP : Hid (primB l = false) := Lib.hid (primB_no hk1 hlt he)
        have heq : ((bts (rotL l k)).toList == (bts l).toList) = true := by rw [he]; simp
        clear he
        go_wp2_with fail
        refine (HTK.out _).mono ?_
        rintro e w2 ⟨rfl, hb2⟩
        have HB2 := Lib.hid (HB.out.trans (hb2.mono HB.out.size))
        clear hb2
        go_wp2_with fail
        go_ret
        exact ⟨by rw [HP.out]; rfl, HB2.out⟩
      · have HE := Lib.hid he
        have heq : ((bts (rotL l k)).toList == (bts l).toList) = false := by
          rw [Lib.toList_data, Lib.toList_data, bts_list, bts_list]
          simpa using he
        clear he
        go_wp2_with fail
        refine (HTK.out _).mono ?_
        rintro e w2 ⟨rfl, hb2⟩
        have HB2 := Lib.hid (HB.out.trans (hb2.mono HB.out.size))
        clear hb2
        go_wp2_with fail
        exact ⟨⟨k + 1, by omega, hlt, by go_num, fun j h2 h3 => by
          by_cases e : j = k
          · subst e; exact HE.out
          · exact HNO.out j h2 (by omega), HB2.out⟩, by simp [intOf]; omega⟩
    · have hlt2 : ¬ ((k : Int) < (bts l).size) := by have := HLEN.out; omega
      have HP : Hid (primB l = true) := Lib.hid (primB_yes fun j h2 h3 => HNO.out j h2 (by omega))
      go_wp2_with fail
      go_ret
      exact ⟨by rw [HP.out]; rfl, HB.out⟩

/-- What IsPrimitive comes to. -/
def ipB (s : ByteArray) : Bool := turnB s && primB s.data.toList
theorem ret_ip {x y a b : Bool} (h : x = y) (h' : a = b) : Ending.returned (.tuple #[.bool x, .bool a]) = .returned (.tuple #[.bool y, .bool b]) := by rw [h, h']

theorem sIsPrimitive (s : ByteArray) (w : World) :
    Calls Tryd.prog 21 #[.string s] w fun e w' => e = .returned (.tuple #[.bool (ipB s), .bool (turnB s)]) ∧ Below w.heap.size w w' := by
  have HW := Lib.hid (fun w => cyWord_any s w)
  cases hw : turnB s
  · have HY : Hid (ipB s = false) := Lib.hid (by rw [ipB, hw]; rfl)
    rw [hw] at HW
    clear hw
    go_enter Tryd.func21, Tryd.ntmps21
    go_wp2_with (go_at_call 28; refine (HW.out _).mono ?_; rintro e w' ⟨rfl, rfl⟩)
    go_ret2
    exact ⟨ret_ip HY.out.symm rfl, Below.refl _ _⟩
  · obtain ⟨z0, z1, hs⟩ := turnB_iff.1 hw
    have hlen : s.data.toList.length = s.size := by simp
    have HY : Hid (ipB s = primB s.data.toList) := Lib.hid (by rw [ipB, hw]; rfl)
    have HT := Lib.hid (fun w => cyPrimitive_any s.data.toList w (by omega) (by omega))
    rw [hw] at HW
    clear hw hs hlen
    go_enter Tryd.func21, Tryd.ntmps21
    go_wp2_with (go_at_call 28; refine (HW.out _).mono ?_; rintro e w' ⟨rfl, rfl⟩)
    refine (HT.out _).mono ?_
    rintro e w2 ⟨rfl, hb2⟩
    go_wp2_with fail
    go_ret2
    exact ⟨ret_ip HY.out.symm rfl, hb2⟩
theorem iIsPrimitive (s : ByteArray) (w : World) (hm : TabM w) :
    Calls Tryd.prog 20 #[.string s] w fun e w' => e = .returned (.tuple #[.bool (ipB s), .bool (turnB s)]) ∧ Below w.heap.size w w' := by
  have HM := Lib.hid hm
  have HW := Lib.hid (fun w => isTurnWord_any s w)
  clear hm
  cases hw : turnB s
  · have HY : Hid (ipB s = false) := Lib.hid (by rw [ipB, hw]; rfl)
    rw [hw] at HW
    clear hw
    go_enter Tryd.func20, Tryd.ntmps20
    go_wp2_with fail
    refine (HW.out _).mono ?_
    rintro e w1 ⟨rfl, hb1⟩
    go_wp2_with fail
    go_ret2
    exact ⟨ret_ip HY.out.symm rfl, hb1⟩
  · obtain ⟨z0, z1, hs⟩ := turnB_iff.1 hw
    have hlen : s.data.toList.length = s.size := by simp
    have HY : Hid (ipB s = primB s.data.toList) := Lib.hid (by rw [ipB, hw]; rfl)
    have HT := Lib.hid (fun w hm => isPrimitive_any s.data.toList w (by omega) (by omega) hm)
    rw [hw] at HW
    clear hw hs hlen
    go_enter Tryd.func20, Tryd.ntmps20
    go_wp2_with fail
    refine (HW.out _).mono ?_
    rintro e w1 ⟨rfl, hb1⟩
    have HM1 := Lib.hid (tabM_below HM.out hb1 (tabM_lt HM.out))
    go_wp2_with fail
    refine (HT.out _ HM1.out).mono ?_
    rintro e w2 ⟨rfl, rfl⟩
    go_wp2_with fail
    go_ret2
    exact ⟨ret_ip HY.out.symm rfl, hb1⟩
end Go.Proofs.YtnhpoefhcngoaaaDoor
