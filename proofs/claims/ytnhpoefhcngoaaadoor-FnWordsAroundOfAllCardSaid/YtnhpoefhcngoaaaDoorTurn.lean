/-
  TURNED WORDS: 'turn', 'leastTurn', 'isPrimitive' of the program; 'cyTurned', 'cyFirst', 'cyPrimitive' of the model.
-/
import Derived.Test.YtnhpoefhcngoaaaDoorCyW
import Derived.Test.YtnhpoefhcngoaaaDoorTurnM
import Derived.Test.YtnhpoefhcngoaaaDoorShelf
import Derived.Laws.Concat
import Derived.WalkLawsBesides
import Derived.Lib.MinMaxS
import Derived.RegionTactic
import Derived.ChangeAlike
namespace Go.Proofs.YtnhpoefhcngoaaaDoor
open Go.RowKit
set_option linter.unusedVariables false

/-- A list of bytes as a text. -/
def bts (l : List UInt8) : ByteArray := ⟨l.toArray⟩
theorem bts_eq (s : ByteArray) : s = bts s.data.toList := rfl
theorem bts_size (l : List UInt8) : (bts l).size = l.length := by show l.toArray.size = _; simp
theorem bts_list (l : List UInt8) : (bts l).data.toList = l := rfl
theorem bts_inj {a b : List UInt8} (h : bts a = bts b) : a = b := by rw [← bts_list a, h, bts_list]
theorem bts_cat (a b : List UInt8) (h : a.length + b.length ≤ 2000) (w : World) : (Op.stringOp .add (bts a) (bts b)).run Tryd.prog w = .ok (.string (bts (a ++ b))) w := by
  rw [run_string_add_sum w _ _ (by rw [bts_size, bts_size]; omega)]
  have : bts a ++ bts b = bts (a ++ b) := by
    unfold bts
    rw [ByteArray.mk_append_mk]
  rw [this]
theorem bts_drop (l : List UInt8) (k : Nat) : (bts l).extract k (bts l).size = bts (l.drop k) := by
  refine ByteArray.ext (Array.ext' ?_)
  rw [bts_size]
  simp [bts]
  exact List.take_of_length_le (by simp)
theorem bts_take (l : List UInt8) (k : Nat) : (bts l).extract 0 k = bts (l.take k) := by
  refine ByteArray.ext (Array.ext' ?_)
  simp [bts]
theorem min_bts (a b : List UInt8) : Lib.minS (bts a) (bts b) = bts (if b < a then b else a) := by
  unfold Lib.minS
  rw [bts_list, bts_list]
  by_cases h : b < a
  · rw [if_pos h, if_neg]
    rintro (h2 | h2)
    · exact absurd (List.lt_trans h h2) (List.lt_irrefl _)
    · subst h2; exact absurd h (List.lt_irrefl _)
  · rw [if_neg h, if_pos]
    exact List.le_iff_lt_or_eq.1 (List.not_lt.1 h)

theorem turn_any (l : List UInt8) (k : Nat) (w : World) (hl : l.length ≤ 10) (hk : k ≤ l.length) :
    Calls Tryd.prog 36 #[.string (bts l), .int .i64 (k : Int)] w fun e w' => e = .returned (.string (bts (rotL l k))) ∧ Below w.heap.size w w' := by
  have hs := bts_size l
  have hz : ((bts l).size : Int) ≤ 10 := by omega
  have hk1 : (k : Int) ≤ (bts l).size := by omega
  have hk2 : k ≤ (bts l).size := by omega
  have hd := bts_drop l k
  have ht := bts_take l k
  have hc := fun w => bts_cat (l.drop k) (l.take k) (by simp; omega) w
  have HR : Hid (rotL l k = l.drop k ++ l.take k) := Lib.hid rfl
  generalize rotL l k = r at HR ⊢
  generalize l.drop k = a at hd hc HR
  generalize l.take k = b at ht hc HR
  clear hl hk hs
  generalize bts l = s at *
  go_enter Tryd.func36, Tryd.ntmps36
  go_wp2
  go_region
  go_wp2
  go_ret
  exact ⟨by rw [HR.out]; rfl, (Below.refl _ _).drew⟩
end Go.Proofs.YtnhpoefhcngoaaaDoor
