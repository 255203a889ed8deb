/-
  HOW MANY o: 'woOdds' of the model.
-/
import Derived.Test.YtencblbkbalmcaaWordR
import Derived.Lib.Bytealg
namespace Go.Proofs.Ytencblbkbalmcaa
open Go.RowKit
set_option linter.unusedVariables false

/-- How many o a list of signs has. -/
def cnt (l : List UInt8) : Nat := l.count 111
theorem cnt_le (l : List UInt8) : cnt l ≤ l.length := List.count_le_length
theorem cnt_take {s : ByteArray} {k : Nat} (hk : k < s.size) : cnt (s.data.toList.take (k + 1)) = cnt (s.data.toList.take k) + if s[k] = 111 then 1 else 0 := by
  have e : s.data.toList.take (k + 1) = s.data.toList.take k ++ [s[k]] := by
    rw [List.take_succ_eq_append_getElem (by simpa using hk)]; rfl
  rw [e]
  unfold cnt
  rw [List.count_append, List.count_singleton]
  by_cases h : s[k] = 111 <;> simp [h]

set_option maxHeartbeats 1000000 in
theorem woOdds_any (s : ByteArray) (w : World) (hz : s.size ≤ 15) (hl : Signs s.data.toList) :
    Calls Try.prog 18 #[.string s] w fun e w' => e = .returned (.int .i64 (cnt s.data.toList : Nat)) ∧ Below w.heap.size w w' := by
  have HL := Lib.hid hl
  have hz1 : (s.size : Int) ≤ 15 := by omega
  clear hl
  go_enter Try.func18, Try.ntmps18
  go_wp2
  go_loopw [3] (fun n w' => ∃ pos : Nat, w' = w.iter s pos ∧ pos ≤ s.size ∧ n = .int .i64 (cnt (s.data.toList.take pos) : Nat)) (fun _ w' => s.size - w'.iterPos w.heap.size)
  case atStart => exact ⟨0, rfl, by omega, rfl⟩
  case round =>
    obtain ⟨pos, rfl, hp, rfl⟩ := hrel
    by_cases hlt : pos < s.size
    · have hsg := HL.out s[pos] (List.getElem_mem (l := s.data.toList) (n := pos) (by simpa using hlt))
      have hct := cnt_take hlt
      have hcl := cnt_le (s.data.toList.take pos)
      have hcl2 : ((cnt (s.data.toList.take pos) : Nat) : Int) ≤ 15 := by
        have := List.length_take_le pos s.data.toList
        omega
      obtain ⟨c, hc⟩ : ∃ c, c = cnt (s.data.toList.take pos) := ⟨_, rfl⟩
      rw [← hc] at hct hcl2 ⊢
      clear hc hcl
      by_cases h1 : s[pos] = 111
      · have n1 : s[pos].toNat = 111 := by rw [h1]; rfl
        rw [if_pos h1] at hct
        have HCT := Lib.hid hct
        have hnx : ∀ ty, (Instr.next (.pointer (some ⟨w.heap.size, 0, none⟩)) true ty).run Try.prog (w.iter s pos) = _ := fun ty => run_next_ascii w s pos ty hlt (by omega)
        clear h1 hct hsg
        go_wp2
        exact ⟨⟨pos + 1, rfl, hlt, by rw [HCT.out]; go_num⟩, by simp; omega⟩
      · have h2 := hsg.resolve_left h1
        have n1 : s[pos].toNat = 101 := by rw [h2]; rfl
        rw [if_neg h1] at hct
        have HCT := Lib.hid hct
        have hnx : ∀ ty, (Instr.next (.pointer (some ⟨w.heap.size, 0, none⟩)) true ty).run Try.prog (w.iter s pos) = _ := fun ty => run_next_ascii w s pos ty hlt (by omega)
        clear h1 h2 hct hsg
        go_wp2
        exact ⟨⟨pos + 1, rfl, hlt, by rw [HCT.out]; rfl⟩, by simp; omega⟩
    · obtain rfl : pos = s.size := by omega
      have hnx : ∀ ty, (Instr.next (.pointer (some ⟨w.heap.size, 0, none⟩)) true ty).run Try.prog (w.iter s s.size) = _ := fun ty => run_next_end w s s.size ty hlt
      have HT : Hid (s.data.toList.take s.size = s.data.toList) := Lib.hid (List.take_of_length_le (by simp))
      go_wp2
      go_ret
      exact ⟨by rw [HT.out]; rfl, below_iter w s _⟩
end Go.Proofs.Ytencblbkbalmcaa
