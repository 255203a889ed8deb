/-
  'strings.Cut' AT A SEPARATOR OF ONE BYTE; what 'readInt' makes of a text.
-/
import Derived.Test.YtgobjobppajkbaaDoorReadMap
import Derived.Test.YtgobjobppajkbaaDoorSpl
namespace Go.Proofs.YtgobjobppajkbaaDoor
open Go.RowKit
set_option linter.unusedVariables false

theorem idxc_any (c : UInt8) (s : ByteArray) (w : World) :
    Calls Tryd.prog 135 #[.string s, .string ⟨#[c]⟩] w fun e w' => e = .returned (.int .i64 (Lib.indexB s (⟨#[c]⟩ : ByteArray))) ∧ w' = w := by
  refine (Tryd.stringslite_Index_one s c w).mono ?_
  rintro e w' ⟨rfl, rfl⟩
  refine ⟨?_, rfl⟩
  rw [← Lib.index_one]

set_option maxRecDepth 100000 in
theorem cutlc_any (c : UInt8) (s : ByteArray) (hs : s.size ≤ 1048576) (w : World) :
    Calls Tryd.prog 115 #[.string s, .string ⟨#[c]⟩] w fun e w' => e = .returned (.tuple #[.string ⟨(Lib.cut s.data.toList (⟨#[c]⟩ : ByteArray).data.toList).1.toArray⟩, .string ⟨(Lib.cut s.data.toList (⟨#[c]⟩ : ByteArray).data.toList).2.1.toArray⟩, .bool (Lib.cut s.data.toList (⟨#[c]⟩ : ByteArray).data.toList).2.2]) ∧ Below w.heap.size w w' := by
  rcases Lib.indexB_cases s (⟨#[c]⟩ : ByteArray) with hix | ⟨i, hix, hroom⟩
  · obtain ⟨e1, e2, e3⟩ := Lib.cutB_miss s (⟨#[c]⟩ : ByteArray) hix
    rw [e1, e2, e3]
    have HI := Lib.hid hix
    clear e1 e2 e3 hix
    go_enter Tryd.func115, Tryd.ntmps115
    go_wp2_with fail
    refine (idxc_any c s _).mono ?_
    rintro e w' ⟨rfl, rfl⟩
    rw [HI.out]
    go_wp2_with fail
    go_ret3
    exact ⟨rfl, Below.refl _ _⟩
  · obtain ⟨e1, e2, e3⟩ := Lib.cutB_hit s (⟨#[c]⟩ : ByteArray) i hix
    rw [e1, e2, e3]
    have hx : (⟨#[c]⟩ : ByteArray).size = 1 := rfl
    rw [hx] at hroom ⊢
    have HI := Lib.hid hix
    have c1 : (0 : Int) ≤ ↑i := by omega
    have c2 : (↑i : Int) ≤ ↑s.size := by omega
    have c3 : (0 : Int) ≤ ↑i + 1 := by omega
    have c4 : (↑i + 1 : Int) ≤ ↑s.size := by omega
    have c5 : (↑i : Int) ≤ 1048576 := by omega
    clear e1 e2 e3 hix hx
    go_enter Tryd.func115, Tryd.ntmps115
    go_wp2_with fail
    refine (idxc_any c s _).mono ?_
    rintro e w' ⟨rfl, rfl⟩
    rw [HI.out]
    go_wp2_with fail
    go_region
    go_wp2
    go_ret3
    exact ⟨rfl, (Below.refl _ _).drew⟩

theorem cutc_any (c : UInt8) (s : ByteArray) (hs : s.size ≤ 1048576) (w : World) :
    Calls Tryd.prog 84 #[.string s, .string ⟨#[c]⟩] w fun e w' => e = .returned (.tuple #[.string ⟨(Lib.cut s.data.toList (⟨#[c]⟩ : ByteArray).data.toList).1.toArray⟩, .string ⟨(Lib.cut s.data.toList (⟨#[c]⟩ : ByteArray).data.toList).2.1.toArray⟩, .bool (Lib.cut s.data.toList (⟨#[c]⟩ : ByteArray).data.toList).2.2]) ∧ Below w.heap.size w w' := by
  go_enter Tryd.func84, Tryd.ntmps84
  go_wp2_with fail
  refine (cutlc_any c s hs _).mono ?_
  rintro e w' ⟨rfl, hb⟩
  go_wp2_with fail
  go_ret3
  exact ⟨rfl, hb⟩


/-- 'strings.Cut', in the words of this text. -/
theorem cutP_any (c : UInt8) (s : ByteArray) (hs : s.size ≤ 1048576) (w : World) :
    Calls Tryd.prog 84 #[.string s, .string ⟨#[c]⟩] w fun e w' => e = .returned (.tuple #[.string (byt (cu1 c s.data.toList)), .string (byt (cu2 c s.data.toList)), .bool (Lib.cut s.data.toList [c]).2.2]) ∧ Below w.heap.size w w' := cutc_any c s hs w
theorem readP_any (l : List UInt8) (hl : l.length ≤ 1048576) (w : World) (hw : Set3 w) :
    Calls Tryd.prog 85 #[.string (byt l)] w fun e w' => e = .returned (.int .i64 (numL l)) ∧ Below w.heap.size w w' :=
  readInt_any (byt l) (by simp [byt, ByteArray.size]; omega) w hw
end Go.Proofs.YtgobjobppajkbaaDoor
