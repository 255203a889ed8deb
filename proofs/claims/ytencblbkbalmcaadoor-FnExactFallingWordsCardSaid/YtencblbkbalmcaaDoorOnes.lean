/-
  'OnesCount' of the library, at numbers below 2 to the power of 15.
-/
import Derived.Test.YtencblbkbalmcaaDoorLeaf
import Derived.Test.YtencblbkbalmcaaDoorOnesM
namespace Go.Proofs.YtencblbkbalmcaaDoor
open Go.RowKit
set_option linter.unusedVariables false

theorem ones_core (x a1 a2 x1 b1 b2 x2 c x3 x4 x5 x6 r : Nat) (w : World)
    (hA1 : bits .and .u64 ((x : Int) / 2) 6148914691236517205 = (a1 : Int)) (hA2 : bits .and .u64 (x : Int) 6148914691236517205 = (a2 : Int)) (hX1 : IntKind.u64.wrap ((a1 : Int) + a2) = (x1 : Int))
    (hB1 : bits .and .u64 ((x1 : Int) / 4) 3689348814741910323 = (b1 : Int)) (hB2 : bits .and .u64 (x1 : Int) 3689348814741910323 = (b2 : Int)) (hX2 : IntKind.u64.wrap ((b1 : Int) + b2) = (x2 : Int))
    (hC : IntKind.u64.wrap ((x2 : Int) / 16 + x2) = (c : Int)) (hX3 : bits .and .u64 (c : Int) 1085102592571150095 = (x3 : Int))
    (hX4 : IntKind.u64.wrap ((x3 : Int) + (x3 : Int) / 256) = (x4 : Int)) (hX5 : IntKind.u64.wrap ((x4 : Int) + (x4 : Int) / 65536) = (x5 : Int)) (hX6 : IntKind.u64.wrap ((x5 : Int) + (x5 : Int) / 4294967296) = (x6 : Int))
    (hI : IntKind.i64.wrap (x6 : Int) = (x6 : Int)) (hR : bits .and .i64 (x6 : Int) 127 = (r : Int)) :
    Calls Tryd.prog 83 #[.int .u64 (x : Int)] w fun e w' => e = .returned (.int .i64 (r : Int)) ∧ w = w' := by
  go_enter Tryd.func83, Tryd.ntmps83
  go_wp2
  go_ret
  exact ⟨rfl, rfl⟩

theorem ones64 (x : Nat) (hx : x < 32768) (w : World) :
    Calls Tryd.prog 83 #[.int .u64 (x : Int)] w fun e w' => e = .returned (.int .i64 (pop x : Nat)) ∧ w = w' := by
  obtain ⟨h1, h2, h3, h4⟩ := oc_at hx
  have l1 : x / 2 &&& 6148914691236517205 ≤ oc1 x := Nat.le_add_right _ _
  have l2 : x &&& 6148914691236517205 ≤ oc1 x := Nat.le_add_left _ _
  have q4 : oc4 x = oc3 x + oc3 x / 256 := rfl
  have q5 : oc5 x = oc4 x + oc4 x / 65536 := rfl
  have q6 : oc6 x = oc5 x + oc5 x / 4294967296 := rfl
  rw [← h4]
  refine ones_core x (x / 2 &&& 6148914691236517205) (x &&& 6148914691236517205) (oc1 x) (oc1 x / 4 &&& 3689348814741910323) (oc1 x &&& 3689348814741910323) (oc2 x) (oc2 x / 16 + oc2 x) (oc3 x) (oc4 x) (oc5 x) (oc6 x) (oc6 x &&& 127) w ?_ ?_ ?_ ?_ ?_ ?_ ?_ ?_ ?_ ?_ ?_ ?_ ?_
  · exact bits_and_u64_nat (x / 2) 6148914691236517205 (by omega) (by decide)
  · exact bits_and_u64_nat x 6148914691236517205 (by omega) (by decide)
  · exact (wrap_small (n := oc1 x) (by omega)).1
  · exact bits_and_u64_nat (oc1 x / 4) 3689348814741910323 (by omega) (by decide)
  · exact bits_and_u64_nat (oc1 x) 3689348814741910323 (by omega) (by decide)
  · exact (wrap_small (n := oc2 x) (by omega)).1
  · exact (wrap_small (n := oc2 x / 16 + oc2 x) (by omega)).1
  · exact bits_and_u64_nat (oc2 x / 16 + oc2 x) 1085102592571150095 (by omega) (by decide)
  · exact (wrap_small (n := oc4 x) (by omega)).1
  · exact (wrap_small (n := oc5 x) (by omega)).1
  · exact (wrap_small (n := oc6 x) (by omega)).1
  · exact (wrap_small (n := oc6 x) (by omega)).2
  · exact and127 (by omega)
theorem ones_any (x : Nat) (hx : x < 32768) (w : World) :
    Calls Tryd.prog 72 #[.int .u64 (x : Int)] w fun e w' => e = .returned (.int .i64 (pop x : Nat)) ∧ w = w' := by
  have HO := Lib.hid (fun w => ones64 x hx w)
  clear hx
  go_enter Tryd.func72, Tryd.ntmps72
  go_wp2_with fail
  refine (HO.out _).mono ?_
  rintro e w' ⟨rfl, rfl⟩
  go_wp2_with fail
  go_ret
  exact ⟨rfl, rfl⟩
end Go.Proofs.YtencblbkbalmcaaDoor
