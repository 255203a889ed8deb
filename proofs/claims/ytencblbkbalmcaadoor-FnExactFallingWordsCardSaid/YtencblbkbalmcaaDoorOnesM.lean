/-
  THE LIBRARY's WAY TO COUNT ONES, at numbers below 2 to the power of 15: plain mathematics. No program.
-/
import Derived.Test.YtencblbkbalmcaaDoorPopM
import Derived.Shelf.Spec.TrailingZeros
namespace Go.Proofs.YtencblbkbalmcaaDoor

def oc1 (x : Nat) : Nat := (x / 2 &&& 6148914691236517205) + (x &&& 6148914691236517205)
def oc2 (x : Nat) : Nat := (oc1 x / 4 &&& 3689348814741910323) + (oc1 x &&& 3689348814741910323)
def oc3 (x : Nat) : Nat := (oc2 x / 16 + oc2 x) &&& 1085102592571150095
def oc4 (x : Nat) : Nat := oc3 x + oc3 x / 256
def oc5 (x : Nat) : Nat := oc4 x + oc4 x / 65536
def oc6 (x : Nat) : Nat := oc5 x + oc5 x / 4294967296
def ocOk (x : Nat) : Bool := decide (oc1 x < 1000000) && (decide (oc2 x < 1000000) && (decide (oc3 x < 1000000) && (oc6 x &&& 127 == pop x)))
def ocAll : Bool := (List.range 128).all fun a => (List.range 256).all fun b => ocOk (a * 256 + b)
theorem ocAll_yes : ocAll = true := by decide +kernel
theorem ocOk_at {x : Nat} (h : x < 32768) : ocOk x = true := by
  have h1 := ocAll_yes
  unfold ocAll at h1
  rw [List.all_eq_true] at h1
  have h2 := h1 (x / 256) (by simp; omega)
  rw [List.all_eq_true] at h2
  have h3 := h2 (x % 256) (by simp; omega)
  rwa [show x / 256 * 256 + x % 256 = x by omega] at h3
theorem oc_at {x : Nat} (h : x < 32768) : oc1 x < 1000000 ∧ oc2 x < 1000000 ∧ oc3 x < 1000000 ∧ oc6 x &&& 127 = pop x := by
  have := ocOk_at h
  simpa [ocOk] using this
theorem wrap_small {n : Nat} (h : n < 9223372036854775808) : IntKind.u64.wrap (n : Int) = (n : Int) ∧ IntKind.i64.wrap (n : Int) = (n : Int) := by
  rw [IntKind.wrap_u64, IntKind.wrap_i64]; omega
theorem and127 {n : Nat} (h : n < 9223372036854775808) : bits .and .i64 (n : Int) 127 = ((n &&& 127 : Nat) : Int) := by
  have h1 : (BitVec.ofInt 64 (n : Int)).toNat = n := by rw [BitVec.ofInt_natCast, BitVec.toNat_ofNat]; exact Nat.mod_eq_of_lt (by omega)
  have h2 : (BitVec.ofInt 64 127).toNat = 127 := by decide
  show IntKind.i64.wrap ((BitVec.ofInt 64 (n : Int) &&& BitVec.ofInt 64 127).toNat : Int) = _
  rw [BitVec.toNat_and, h1, h2]
  have : n &&& 127 ≤ 127 := Nat.and_le_right
  exact (wrap_small (by omega)).2
end Go.Proofs.YtencblbkbalmcaaDoor
