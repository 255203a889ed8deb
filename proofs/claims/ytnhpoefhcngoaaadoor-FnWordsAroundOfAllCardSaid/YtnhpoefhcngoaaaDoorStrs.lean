/-
  WHAT THE LAWS DO TO A SLICE OF STRINGS: it is held against another, marked, and read again.
  'eqStringS', 'markStringS', 'heldStringS' of the laws.
  THE SAME AT WHATEVER SLICE OF STRINGS OF THE CALL's OWN: nil, empty or not.
-/
import Derived.Test.YtnhpoefhcngoaaaDoorOwn
import Derived.Test.YtnhpoefhcngoaaaDoorTouch
import Derived.Test.YtnhpoefhcngoaaaDoorWoOf
import Derived.WalkSmall
import Derived.WalkLawsBesides
import Derived.Deep.RegionWith
import Derived.BigQuiet
import Derived.Deep.QuietTactic
namespace Go.Proofs.YtnhpoefhcngoaaaDoor
open Go.RowKit
set_option linter.unusedVariables false

/-- A digit's sign. -/
def dgt (d : Nat) : UInt8 := UInt8.ofNat (48 + d)
/-- The digits of k ahead of acc. -/
def mkD (k : Nat) (acc : List UInt8) : List UInt8 := if h : 0 < k then mkD (k / 10) (dgt (k % 10) :: acc) else acc
termination_by k
decreasing_by omega
theorem mkD_pos {k : Nat} (acc : List UInt8) (h : 0 < k) : mkD k acc = mkD (k / 10) (dgt (k % 10) :: acc) := by rw [mkD, dif_pos h]
theorem mkD_zero (acc : List UInt8) : mkD 0 acc = acc := by rw [mkD, dif_neg (by omega)]
theorem mkD_len : ∀ (n k : Nat) (acc : List UInt8), k ≤ n → (mkD k acc).length ≤ acc.length + k
  | 0, k, acc, h => by obtain rfl : k = 0 := by omega
                       rw [mkD_zero]; omega
  | n + 1, k, acc, h => by
    by_cases hk : 0 < k
    · rw [mkD_pos acc hk]
      have := mkD_len n (k / 10) (dgt (k % 10) :: acc) (by omega)
      rw [List.length_cons] at this
      omega
    · obtain rfl : k = 0 := by omega
      rw [mkD_zero]; omega
/-- The mark k. -/
def mkT (k : Nat) : ByteArray := wby (109 :: mkD k [])
theorem wby_cat (a b : List UInt8) (h : a.length + b.length ≤ 2000) (w : World) : (Op.stringOp .add (wby a) (wby b)).run Tryd.prog w = .ok (.string (wby (a ++ b))) w := by
  rw [run_string_add_sum w _ _ (by
    have h1 : (wby a).size = a.length := by show a.toArray.size = _; simp
    have h2 : (wby b).size = b.length := by show b.toArray.size = _; simp
    omega)]
  have : wby a ++ wby b = wby (a ++ b) := by
    unfold wby
    rw [ByteArray.mk_append_mk]
  rw [this]
theorem one_byte (d : Nat) (hd : d ≤ 9) (w : World) : (convert 75 9 (.slice (some ⟨w.heap.size, 0, none⟩) 1 1)).run Tryd.prog (w.alloc (.cells #[.int .u8 ((48 : Int) + (d : Int))] 5)) = .ok (.string (wby [dgt d])) (w.alloc (.cells #[.int .u8 ((48 : Int) + (d : Int))] 5)) := by
  have hb : ((dgt d).toNat : Int) = (48 : Int) + (d : Int) := by
    unfold dgt
    rw [UInt8.toNat_ofNat_of_lt' (by show _ < 256; omega)]; omega
  exact run_convert_bytes_back (P := Tryd.prog) (w.alloc (.cells #[.int .u8 ((48 : Int) + (d : Int))] 5)) 75 9 5 ⟨w.heap.size, 0, none⟩ 1 [dgt d] Tryd.underlying75 Tryd.underlying5 Tryd.underlying9 (fun i hi => by
    obtain rfl : i = 0 := by simpa using hi
    have e : (⟨w.heap.size, 0, none⟩ : Addr).add 0 = ⟨w.heap.size, 0, none⟩ := by simp [Addr.add]
    rw [e]
    show _ = some (Value.int .u8 ((dgt d).toNat : Int))
    rw [hb]
    go_simp)

end Go.Proofs.YtnhpoefhcngoaaaDoor

namespace Go.Proofs.YtnhpoefhcngoaaaDoor
open Go.RowKit
set_option linter.unusedVariables false

/-- The marks 1, 2, .. in a row. -/
def markedS (L : Nat) : List ByteArray := (List.range L).map fun (i : Nat) => mkT (i + 1)
theorem markedS_at {L j : Nat} (h : j < L) : (markedS L).getD j ⟨#[]⟩ = mkT (j + 1) := by simp [markedS, List.getD_eq_getElem?_getD, h]

end Go.Proofs.YtnhpoefhcngoaaaDoor

namespace Go.Proofs.YtnhpoefhcngoaaaDoor
open Go.RowKit
set_option linter.unusedVariables false

end Go.Proofs.YtnhpoefhcngoaaaDoor
