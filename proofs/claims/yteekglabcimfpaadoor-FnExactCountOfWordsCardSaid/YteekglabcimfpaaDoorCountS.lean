/-
  'CountOfWords' of the model.
-/
import Derived.Test.YteekglabcimfpaaDoorAllHas
import Derived.Test.YteekglabcimfpaaDoorLen
import Derived.Test.YteekglabcimfpaaDoorWoOf
import Derived.OwnWalk
import Derived.WalkLawsBesides
import Derived.RegionTactic
namespace Go.Proofs.YteekglabcimfpaaDoor
open Go.RowKit
set_option linter.unusedVariables false

/-- What CountOfWords is asked. -/
def askC (t p : Int) (xs : List Int) (k : Int) : Bool := goodB t p && (decide (xs.length ≤ 100) && (xs.all (fun n => inB n (-1000000000000) 1000000000000) && inB k 0 15))
/-- What it comes to. -/
def cntC (t p : Int) (xs : List Int) (k : Int) : Int := if askC t p xs k = true then ((wlist t p k.toNat xs xs.length).length : Nat) else 0
theorem cntC_no {t p : Int} {xs : List Int} {k : Int} (h : askC t p xs k = false) : cntC t p xs k = 0 := by rw [cntC, if_neg (by simp [h])]
theorem cntC_yes {t p : Int} {xs : List Int} {k : Int} (h : askC t p xs k = true) : cntC t p xs k = ((wlist t p k.toNat xs xs.length).length : Nat) := by rw [cntC, if_pos h]
theorem ret_ib {x y : Int} {a b : Bool} (h : x = y) (h' : a = b) : Ending.returned (.tuple #[.int .i64 x, .bool a]) = .returned (.tuple #[.int .i64 y, .bool b]) := by rw [h, h']
theorem infoStr : (Tryd.prog.info? 9).map (fun i => (i.zero, i.size, i.bytes)) = some (some (.string ⟨#[]⟩), 1, 16) := by kernel_rfl
theorem new_cellS (w : World) (x : Value) (T : TypeId) {j : Nat} {u : Value} (h : [x][j]? = some u) : (w.alloc (.cells #[x] T)).cell? ((⟨w.heap.size, 0, none⟩ : Addr).add j) = some u := new_cell w x T h
theorem StrsAt.of_row {w : World} {base n : Nat} {v : Value} {xs : List ByteArray} (h : w.ownsRow base 9 1 v n (xs.map Value.string)) (hn : n = xs.length) : StrsAt w base v xs := by subst hn; exact h

set_option maxRecDepth 100000 in
set_option maxHeartbeats 4000000 in
theorem sCount_no (t p : Int) (xs : List Int) (k : Int) (v : Value) (w : World) (hl : xs.length ≤ 1048576) (h : IntsIn w v xs) (hno : askC t p xs k = false) :
    Calls Tryd.prog 24 #[.agg #[.int .i64 t, .int .i64 p], v, .int .i64 k] w fun e w' => e = .returned (.tuple #[.int .i64 0, .bool false]) ∧ Below w.heap.size w w' := by
  have HM := Lib.hid (fun w => mpGood_any t p w)
  have HL := Lib.hid (fun w => woLength_any k w)
  have HA := Lib.hid (fun w v (h : IntsIn w v xs) => l1All_any xs (-1000000000000) 1000000000000 v w hl h)
  have HX := Lib.hid h
  obtain ⟨a, cap, rfl, _⟩ := h
  have HK := Lib.hid hl
  cases hg : goodB t p
  · rw [hg] at HM
    clear hg hno hl
    generalize xs.length = K at HX HK ⊢
    go_enter Tryd.func24, Tryd.ntmps24
    go_wp2_with fail
    refine (HM.out _).mono ?_
    rintro e w1 ⟨rfl, hb1⟩
    obtain ⟨c0, c1, hz, hb⟩ := map_block hb1
    clear hb1
    go_wp2_with fail
    go_ret2
    exact ⟨rfl, hb⟩
  · rw [hg] at HM
    by_cases hk : xs.length ≤ 100
    · have hk1 : ¬ (100 < (xs.length : Int)) := by omega
      cases ha : xs.all (fun n => inB n (-1000000000000) 1000000000000)
      · rw [ha] at HA
        clear hg hno hl ha hk
        generalize xs.length = K at HX HK hk1 ⊢
        go_enter Tryd.func24, Tryd.ntmps24
        go_wp2_with fail
        refine (HM.out _).mono ?_
        rintro e w1 ⟨rfl, hb1⟩
        obtain ⟨c0, c1, hz, hb⟩ := map_block hb1
        clear hb1
        have HX1 := Lib.hid (HX.out.kept hb)
        go_wp2_with (go_at_call 40; refine (HA.out _ _ HX1.out).mono ?_; rintro e w' ⟨rfl, rfl⟩)
        go_ret2
        exact ⟨rfl, hb⟩
      · have hc : inB k 0 15 = false := by simpa [askC, hg, ha, hk] using hno
        rw [ha] at HA
        rw [hc] at HL
        clear hg hno hl ha hk hc
        generalize xs.length = K at HX HK hk1 ⊢
        go_enter Tryd.func24, Tryd.ntmps24
        go_wp2_with fail
        refine (HM.out _).mono ?_
        rintro e w1 ⟨rfl, hb1⟩
        obtain ⟨c0, c1, hz, hb⟩ := map_block hb1
        clear hb1
        have HX1 := Lib.hid (HX.out.kept hb)
        go_wp2_with (first | (go_at_call 40; refine (HA.out _ _ HX1.out).mono ?_; rintro e w' ⟨rfl, rfl⟩) | (go_at_call 41; refine (HL.out _).mono ?_; rintro e w' ⟨rfl, rfl⟩))
        go_ret2
        exact ⟨rfl, hb⟩
    · have hk1 : 100 < (xs.length : Int) := by omega
      clear hg hno hl hk
      generalize xs.length = K at HX HK hk1 ⊢
      go_enter Tryd.func24, Tryd.ntmps24
      go_wp2_with fail
      refine (HM.out _).mono ?_
      rintro e w1 ⟨rfl, hb1⟩
      obtain ⟨c0, c1, hz, hb⟩ := map_block hb1
      clear hb1
      go_wp2_with fail
      go_ret2
      exact ⟨rfl, hb⟩
end Go.Proofs.YteekglabcimfpaaDoor
