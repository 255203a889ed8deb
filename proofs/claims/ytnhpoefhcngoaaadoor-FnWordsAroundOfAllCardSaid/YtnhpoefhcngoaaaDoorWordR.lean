/-
  A RANGE OVER A STRING: small lemmas.
  WHICH TEXTS ARE WORDS: of the model and of the program: a range over a string.
-/
import Derived.Test.YtnhpoefhcngoaaaDoorLeaf
import Derived.Test.YtnhpoefhcngoaaaDoorWord
import Derived.Laws.RangeAny
import Derived.Laws.IdiomStrings
namespace Go.Proofs.YtnhpoefhcngoaaaDoor
open Go.RowKit
set_option linter.unusedVariables false

theorem below_iter (w : World) (s : ByteArray) (k : Nat) : Below w.heap.size w (w.iter s k) := (Below.refl _ w).alloc (Nat.le_refl _) _
theorem u8_ne {c d : UInt8} (h : c ≠ d) : c.toNat ≠ d.toNat := fun e => h (UInt8.toNat_inj.1 e)

end Go.Proofs.YtnhpoefhcngoaaaDoor

namespace Go.Proofs.YtnhpoefhcngoaaaDoor
open Go.RowKit
set_option linter.unusedVariables false

/-- Is it a word? -/
def wordB (s : ByteArray) : Bool := decide (s.size ≤ 15) && s.data.toList.all fun c => c == 111 || c == 101
theorem wordB_iff {s : ByteArray} : wordB s = true ↔ s.size ≤ 15 ∧ Signs s.data.toList := by
  unfold wordB Signs
  rw [Bool.and_eq_true, decide_eq_true_eq, List.all_eq_true]
  constructor
  · rintro ⟨h1, h2⟩; exact ⟨h1, fun c hc => by simpa using h2 c hc⟩
  · rintro ⟨h1, h2⟩; exact ⟨h1, fun c hc => by simpa using h2 c hc⟩
/-- Are the first k bytes signs? -/
def UpTo (s : ByteArray) (k : Nat) : Prop := ∀ j, (h : j < s.size) → j < k → s[j] = 111 ∨ s[j] = 101
theorem upTo_zero (s : ByteArray) : UpTo s 0 := fun j _ h => by omega
theorem upTo_succ {s : ByteArray} {k : Nat} (h : UpTo s k) (hk : k < s.size) (hc : s[k] = 111 ∨ s[k] = 101) : UpTo s (k + 1) := by
  intro j hj hjk
  by_cases e : j = k
  · subst e; exact hc
  · exact h j hj (by omega)
theorem wordB_yes {s : ByteArray} (hl : s.size ≤ 15) (h : UpTo s s.size) : wordB s = true := by
  rw [wordB_iff]
  refine ⟨hl, fun c hc => ?_⟩
  obtain ⟨i, hi, rfl⟩ := List.getElem_of_mem hc
  exact h i (by simpa using hi) (by simpa using hi)
theorem wordB_no {s : ByteArray} {k : Nat} (hk : k < s.size) (h1 : s[k] ≠ 111) (h2 : s[k] ≠ 101) : wordB s = false := by
  rw [Bool.eq_false_iff]
  intro h
  rcases (wordB_iff.1 h).2 s[k] (List.getElem_mem (l := s.data.toList) (n := k) (by simpa using hk)) with e | e
  · exact h1 e
  · exact h2 e
theorem wordB_long {s : ByteArray} (hl : ¬ s.size ≤ 15) : wordB s = false := by
  rw [Bool.eq_false_iff]
  intro h
  exact hl (wordB_iff.1 h).1
theorem decode_not {s : ByteArray} {k : Nat} (hk : k < s.size) (h1 : s[k] ≠ 111) (h2 : s[k] ≠ 101) : (Utf8.decode s k).1 ≠ 111 ∧ (Utf8.decode s k).1 ≠ 101 := by
  by_cases ha : s[k].toNat < 128
  · rw [decode_ascii s k hk ha]
    exact ⟨fun e => u8_ne h1 e, fun e => u8_ne h2 e⟩
  · have := (decode_high s k hk (by omega)).1
    omega

set_option maxHeartbeats 1000000 in
theorem isWord_any (s : ByteArray) (w : World) :
    Calls Tryd.prog 49 #[.string s] w fun e w' => e = .returned (.bool (wordB s)) ∧ Below w.heap.size w w' := by
  by_cases hl : s.size ≤ 15
  · have hl1 : (s.size : Int) ≤ 15 := by omega
    have hl2 : ¬ (15 < (s.size : Int)) := by omega
    have HL := Lib.hid hl
    clear hl
    go_enter Tryd.func49, Tryd.ntmps49
    go_wp2
    go_loopw [] (fun w' => ∃ pos : Nat, w' = w.iter s pos ∧ pos ≤ s.size ∧ UpTo s pos) (fun w' => s.size - w'.iterPos w.heap.size)
    case atStart => exact ⟨0, rfl, by omega, upTo_zero s⟩
    case round =>
      obtain ⟨pos, rfl, hp, hu⟩ := hrel
      have HU := Lib.hid hu
      clear hu
      by_cases hlt : pos < s.size
      · by_cases h1 : s[pos] = 111
        · have n1 : s[pos].toNat = 111 := by rw [h1]; rfl
          have H1 := Lib.hid h1
          have hnx : ∀ ty, (Instr.next (.pointer (some ⟨w.heap.size, 0, none⟩)) true ty).run Tryd.prog (w.iter s pos) = _ := fun ty => run_next_ascii w s pos ty hlt (by omega)
          clear h1
          go_wp2
          exact ⟨⟨pos + 1, rfl, hlt, upTo_succ HU.out hlt (.inl H1.out)⟩, by simp; omega⟩
        · by_cases h2 : s[pos] = 101
          · have n1 : s[pos].toNat = 101 := by rw [h2]; rfl
            have H2 := Lib.hid h2
            have hnx : ∀ ty, (Instr.next (.pointer (some ⟨w.heap.size, 0, none⟩)) true ty).run Tryd.prog (w.iter s pos) = _ := fun ty => run_next_ascii w s pos ty hlt (by omega)
            clear h1 h2
            go_wp2
            exact ⟨⟨pos + 1, rfl, hlt, upTo_succ HU.out hlt (.inr H2.out)⟩, by simp; omega⟩
          · have HW := Lib.hid (wordB_no hlt h1 h2)
            have hd := decode_not hlt h1 h2
            have n1 : (((Utf8.decode s pos).1 : Int) != 111) = true := by have := hd.1; simp; omega
            have n2 : (((Utf8.decode s pos).1 : Int) != 101) = true := by have := hd.2; simp; omega
            have hnx : ∀ ty, (Instr.next (.pointer (some ⟨w.heap.size, 0, none⟩)) true ty).run Tryd.prog (w.iter s pos) = _ := fun ty => run_next_any w s pos ty hlt
            clear hd
            clear h1 h2
            go_wp2
            go_ret
            exact ⟨ret_bool HW.out.symm, below_iter w s _⟩
      · obtain rfl : pos = s.size := by omega
        have HW := Lib.hid (wordB_yes HL.out HU.out)
        have hnx : ∀ ty, (Instr.next (.pointer (some ⟨w.heap.size, 0, none⟩)) true ty).run Tryd.prog (w.iter s s.size) = _ := fun ty => run_next_end w s s.size ty hlt
        go_wp2
        go_ret
        exact ⟨ret_bool HW.out.symm, below_iter w s _⟩
  · have hl2 : 15 < (s.size : Int) := by omega
    rw [wordB_long hl]
    go_enter Tryd.func49, Tryd.ntmps49
    go_wp2
    go_ret
    exact ⟨rfl, Below.refl _ _⟩

end Go.Proofs.YtnhpoefhcngoaaaDoor
