/-
  BEHIND HOW MANY SIGNS A RESIDUE FALLS: 'rsFall' of the model.
-/
import Derived.Test.YtgobjobppajkbaaDoorFw
import Derived.Test.YtgobjobppajkbaaDoorLine
import Derived.Test.YtgobjobppajkbaaDoorWoOf
namespace Go.Proofs.YtgobjobppajkbaaDoor
open Go.RowKit
set_option linter.unusedVariables false

theorem wbyS_size (l : List UInt8) : (wby l).size = l.length := by show l.toArray.size = _; simp
theorem wbyS_at (l : List UInt8) {k : Nat} (h : k < (wby l).size) : (wby l)[k] = l[k]'(by rw [wbyS_size] at h; exact h) := by
  rfl
theorem wrd_get (t p n : Int) {k K : Nat} (h : k < (wrd t p n K).length) : (wrd t p n K)[k] = par (itr (sx t p) k n) := by simp [wrd]

set_option maxRecDepth 100000 in
set_option maxHeartbeats 2000000 in
theorem rsFall_any (t p n : Int) (K : Nat) (w : World) (hg : goodB t p = true) (hK : K ≤ 15) :
    Calls Tryd.prog 35 #[.agg #[.int .i64 t, .int .i64 p], .string (wby (wrd t p n K))] w fun e w' => e = .returned (.int .i64 (fa t p n K : Nat)) ∧ Below w.heap.size w w' := by
  have HG := Lib.hid hg
  have hsz : (wby (wrd t p n K)).size = K := by rw [wbyS_size, wrd_length]
  have hat : ∀ k, (h : k < (wby (wrd t p n K)).size) → (wby (wrd t p n K))[k] = par (itr (sx t p) k n) := fun k h => by rw [wbyS_at, wrd_get]
  generalize wby (wrd t p n K) = s at hsz hat
  subst hsz
  have HAT := Lib.hid hat
  have HK := Lib.hid hK
  have hz1 : (s.size : Int) ≤ 15 := by omega
  clear hg hat hK
  go_enter Tryd.func35, Tryd.ntmps35
  go_wp2
  go_loopw [5, 6] (fun x _ wr => ∃ pos : Nat, pos ≤ s.size ∧ x = .int .i64 (od t p n pos : Nat) ∧ fa t p n pos = 0 ∧ wr.heap[w.heap.size + 1]? = some (.stringIter s pos) ∧ wr.cell? ⟨w.heap.size, 0, none⟩ = some (.int .i64 t) ∧ wr.cell? ⟨w.heap.size, 1, none⟩ = some (.int .i64 p) ∧ Below w.heap.size w wr) (fun _ _ wr => s.size - wr.iterPos (w.heap.size + 1))
  case atStart => exact ⟨0, Nat.zero_le _, rfl, rfl, iter_last _ _ _ _, by simp [World.iter], by simp [World.iter], ((Below.refl _ _).alloc (Nat.le_refl _) _).alloc (by simp) _⟩
  case round =>
    obtain ⟨pos, hp, rfl, hfa, hit, hc0, hc1, hbel⟩ := hrel
    have HIT := Lib.hid hit
    have HB := Lib.hid hbel
    have HFA := Lib.hid hfa
    clear hfa
    by_cases hlt : pos < s.size
    · have q0 : (wr.iterAt (w.heap.size + 1) s (pos + 1)).cell? ⟨w.heap.size, 0, none⟩ = some (.int .i64 t) := (cell_iterAt _ _ _ _ _ _ (by omega)).trans hc0
      have q1 : (wr.iterAt (w.heap.size + 1) s (pos + 1)).cell? ⟨w.heap.size, 1, none⟩ = some (.int .i64 p) := (cell_iterAt _ _ _ _ _ _ (by omega)).trans hc1
      have hszr : w.heap.size + 1 < wr.heap.size := (Array.getElem?_eq_some_iff.1 hit).1
      have HBI := Lib.hid (Lib.below_iterAt hbel (show w.heap.size ≤ w.heap.size + 1 by omega) s (pos + 1))
      have HITN := Lib.hid (Lib.iterAt_heap wr (w.heap.size + 1) s pos (pos + 1) hit)
      have hpos : pos ≤ 15 := by have := HK.out; omega
      have hpos1 : (pos : Int) ≤ 15 := by omega
      have hos := od_succ t p n pos
      have hol := od_le t p n pos
      have hok : ((od t p n pos : Nat) : Int) ≤ 15 := by omega
      have hat := HAT.out pos hlt
      have HF := Lib.hid (fun w => woFalls_big t p (od t p n (pos + 1)) (pos + 1) w HG.out (by have := od_le t p n (pos + 1); omega) (by omega))
      have HMISS := Lib.hid (fun h => fa_miss HFA.out h)
      have HHIT := Lib.hid (fun h => fa_hit HFA.out h (K := s.size) hlt)
      clear hit hbel hc0 hc1 hol
      by_cases hpar : par (itr (sx t p) pos n) = 111
      all_goals
        first | rw [if_pos hpar] at hos | rw [if_neg hpar] at hos
        have HOS := Lib.hid hos
        rw [hos] at HF
        first
          | (have n1 : s[pos].toNat = 111 := by rw [hat, hpar]; rfl
             have hnx : ∀ ty, (Instr.next (.pointer (some ⟨w.heap.size + 1, 0, none⟩)) true ty).run Tryd.prog wr = _ := fun ty => Lib.run_next_ascii_at wr _ s pos ty HIT.out hlt (by omega))
          | (have n1 : s[pos].toNat = 101 := by
               rw [hat]
               have : par (itr (sx t p) pos n) = 101 := by
                 unfold par at hpar ⊢
                 split
                 · rfl
                 · rename_i h; rw [if_neg h] at hpar; exact absurd rfl hpar
               rw [this]; rfl
             have hnx : ∀ ty, (Instr.next (.pointer (some ⟨w.heap.size + 1, 0, none⟩)) true ty).run Tryd.prog wr = _ := fun ty => Lib.run_next_ascii_at wr _ s pos ty HIT.out hlt (by omega))
        clear hpar hos hat
        cases hfl : fl t (od t p n (pos + 1)) (pos + 1)
        all_goals
          first
            | (have HEND := Lib.hid (HHIT.out hfl)
               rw [HOS.out] at hfl
               rw [hfl] at HF
               clear hfl
               go_wp2_with fail
               refine (HF.out _).mono ?_
               rintro e w5 ⟨rfl, hb5⟩
               have HB5 := Lib.hid (HBI.out.trans (hb5.mono HBI.out.size))
               clear hb5
               go_wp2_with fail
               go_ret
               exact ⟨ret_int (by rw [HEND.out]; rfl), HB5.out⟩)
            | (have HEND := Lib.hid (HMISS.out hfl)
               rw [HOS.out] at hfl
               rw [hfl] at HF
               clear hfl
               go_wp2_with fail
               refine (HF.out _).mono ?_
               rintro e w5 ⟨rfl, hb5⟩
               have hszI : (wr.iterAt (w.heap.size + 1) s (pos + 1)).heap.size = wr.heap.size := by simp [World.iterAt]
               have f0 := kept_cell hb5 (by omega) q0
               have f1 := kept_cell hb5 (by omega) q1
               have HIT5 := Lib.hid ((hb5.block (w.heap.size + 1) (by omega)).trans HITN.out)
               have HB5 := Lib.hid (HBI.out.trans (hb5.mono HBI.out.size))
               clear hb5 q0 q1
               go_wp2_with fail
               refine ⟨⟨pos + 1, hlt, by rw [HOS.out]; rfl, HEND.out, HIT5.out, f0, f1, HB5.out⟩, ?_⟩
               rw [iterPos_of HIT.out, iterPos_of HIT5.out]; omega)
    · have HP : Hid (pos = s.size) := Lib.hid (by omega)
      have hnx : ∀ ty, (Instr.next (.pointer (some ⟨w.heap.size + 1, 0, none⟩)) true ty).run Tryd.prog wr = _ := fun ty => Lib.run_next_end_at wr _ s pos ty HIT.out (by omega)
      clear hit hbel hc0 hc1
      go_wp2
      go_ret
      exact ⟨ret_int (by rw [← HP.out, HFA.out]; rfl), HB.out⟩
end Go.Proofs.YtgobjobppajkbaaDoor
