/-
  WHAT THE LAWS DO TO A SLICE OF STRINGS: it is held against another, marked, and read again.
-/
import Derived.Test.YtencblbkbalmcaaDoorStrOwn
import Derived.Test.YtencblbkbalmcaaDoorTouch
import Derived.Test.YtencblbkbalmcaaDoorWoOf
import Derived.WalkSmall
import Derived.WalkLawsBesides
import Derived.Deep.RegionWith
namespace Go.Proofs.YtencblbkbalmcaaDoor
open Go.RowKit
set_option linter.unusedVariables false

/-- A digit's sign. -/
def dgt (d : Nat) : UInt8 := UInt8.ofNat (48 + d)
/-- The digits of k ahead of acc. -/
def mkD (k : Nat) (acc : List UInt8) : List UInt8 := if h : 0 < k then mkD (k / 10) (dgt (k % 10) :: acc) else acc
termination_by k
decreasing_by omega
theorem mkD_pos {k : Nat} (acc : List UInt8) (h : 0 < k) : mkD k acc = mkD (k / 10) (dgt (k % 10) :: acc) := by rw [mkD, dif_pos h]
theorem mkD_zero (acc : List UInt8) : mkD 0 acc = acc := by rw [mkD, dif_neg (by omega)]
theorem mkD_len : ∀ (n k : Nat) (acc : List UInt8), k ≤ n → (mkD k acc).length ≤ acc.length + k
  | 0, k, acc, h => by obtain rfl : k = 0 := by omega
                       rw [mkD_zero]; omega
  | n + 1, k, acc, h => by
    by_cases hk : 0 < k
    · rw [mkD_pos acc hk]
      have := mkD_len n (k / 10) (dgt (k % 10) :: acc) (by omega)
      rw [List.length_cons] at this
      omega
    · obtain rfl : k = 0 := by omega
      rw [mkD_zero]; omega
/-- The mark k. -/
def mkT (k : Nat) : ByteArray := wby (109 :: mkD k [])
theorem wby_cat (a b : List UInt8) (h : a.length + b.length ≤ 2000) (w : World) : (Op.stringOp .add (wby a) (wby b)).run Tryd.prog w = .ok (.string (wby (a ++ b))) w := by
  rw [run_string_add_sum w _ _ (by
    have h1 : (wby a).size = a.length := by show a.toArray.size = _; simp
    have h2 : (wby b).size = b.length := by show b.toArray.size = _; simp
    omega)]
  have : wby a ++ wby b = wby (a ++ b) := by
    unfold wby
    rw [ByteArray.mk_append_mk]
  rw [this]
theorem one_byte (d : Nat) (hd : d ≤ 9) (w : World) : (convert 75 9 (.slice (some ⟨w.heap.size, 0, none⟩) 1 1)).run Tryd.prog (w.alloc (.cells #[.int .u8 ((48 : Int) + (d : Int))] 5)) = .ok (.string (wby [dgt d])) (w.alloc (.cells #[.int .u8 ((48 : Int) + (d : Int))] 5)) := by
  have hb : ((dgt d).toNat : Int) = (48 : Int) + (d : Int) := by
    unfold dgt
    rw [UInt8.toNat_ofNat_of_lt' (by show _ < 256; omega)]; omega
  exact run_convert_bytes_back (P := Tryd.prog) (w.alloc (.cells #[.int .u8 ((48 : Int) + (d : Int))] 5)) 75 9 5 ⟨w.heap.size, 0, none⟩ 1 [dgt d] Tryd.underlying75 Tryd.underlying5 Tryd.underlying9 (fun i hi => by
    obtain rfl : i = 0 := by simpa using hi
    have e : (⟨w.heap.size, 0, none⟩ : Addr).add 0 = ⟨w.heap.size, 0, none⟩ := by simp [Addr.add]
    rw [e]
    show _ = some (Value.int .u8 ((dgt d).toNat : Int))
    rw [hb]
    go_simp)

set_option maxRecDepth 100000 in
set_option maxHeartbeats 1000000 in
theorem markText_any (k : Nat) (hk0 : 0 < k) (hk : k ≤ 1000) (w : World) :
    Calls Tryd.prog 46 #[.int .i64 (k : Int)] w fun e w' => e = .returned (.string (mkT k)) ∧ Below w.heap.size w w' := by
  have hki : (0 : Int) < (k : Int) := by omega
  have hk1 : ¬ (k = 0) := by omega
  have hk2 : decide (k ≤ 0) = false := by simp; omega
  go_enter Tryd.func46, Tryd.ntmps46
  go_wp2_with fail
  go_loopw [0, 3] (fun x o wr => ∃ (n : Nat) (acc : List UInt8), x = .int .i64 (n : Int) ∧ o = .string (wby acc) ∧ n + acc.length ≤ k ∧ mkD n acc = mkD k [] ∧ Below w.heap.size w wr) (fun x _ _ => (intOf x).toNat)
  case atStart => exact ⟨k, [], rfl, rfl, by simp, rfl, Below.refl _ _⟩
  case round =>
    obtain ⟨n, acc, rfl, rfl, hlen, hD, hb⟩ := hrel
    have HD := Lib.hid hD
    have HB := Lib.hid hb
    have hbs := hb.size
    have hn1 : (n : Int) ≤ 1000 := by omega
    clear hD hb
    by_cases hn : 0 < n
    · have hni : (0 : Int) < (n : Int) := by omega
      have hd : decide (0 < n) = true := by simpa using hn
      have HP := Lib.hid (mkD_pos acc hn)
      have h1 := one_byte (n % 10) (by omega) wr
      have h2 := fun w => wby_cat [dgt (n % 10)] acc (by simp; omega) w
      have e1 : ((n % 10 : Nat) : Int) = (n : Int) % 10 := by omega
      rw [e1] at h1
      clear e1
      go_wp2_with fail
      refine ⟨⟨n / 10, dgt (n % 10) :: acc, by rfl, by rfl, by simp; omega, by rw [← HP.out]; exact HD.out, HB.out.alloc hbs _⟩, by simp [intOf]; omega⟩
    · have hd : decide (0 < n) = false := by simpa using hn
      have HZ : Hid (mkD n acc = acc) := Lib.hid (by rw [show n = 0 by omega, mkD_zero])
      have h2 : ∀ w, (Op.stringOp .add ⟨#[109]⟩ (wby acc)).run Tryd.prog w = .ok (.string (wby (109 :: acc))) w := fun w => wby_cat [109] acc (by simp; omega) w
      have HM : Hid (mkT k = wby (109 :: acc)) := Lib.hid (by unfold mkT; rw [← HD.out, HZ.out])
      go_wp2_with fail
      go_ret
      exact ⟨by rw [HM.out]; rfl, HB.out⟩
end Go.Proofs.YtencblbkbalmcaaDoor
