/-
  'listUpTo' of the program: what each of the numbers up to a limit has.
-/
import Derived.Test.YtponmblponfdaaaNeed
import Derived.Test.YtponmblponfdaaaCpF
import Derived.OwnWalk
import Derived.RangeFuncBox
namespace Go.Proofs.Ytponmblponfdaaa
open Go.RowKit
set_option linter.unusedVariables false

/-- What one has, or -1. -/
def hvN (G : Int → Int × Bool) (n : Int) : Int := if (G n).2 = true then (G n).1 else -1
/-- What a function that makes a list from 1 on up to a limit hands back. -/
def RetTab (h : Int → Int) (t p k : Int) (w : World) (e : Ending) (w' : World) : Prop := RetInts (tabA (fun _ _ => h) t p k) (askL t p k) w e w'
theorem cpF_at {xs : List Int} {j k : Nat} (h : j < xs.length) : ∃ u, ((cpF xs k).map (Value.int .i64))[j]? = some (.int .i64 u) := by
  rw [List.getElem?_map, List.getElem?_eq_getElem (by rw [cpF_length]; exact h)]
  exact ⟨_, rfl⟩

set_option maxRecDepth 100000 in
set_option maxHeartbeats 4000000 in
theorem listUpTo_any (fs : Nat) (G : Int → Int × Bool) (t p k : Int) (w : World)
    (hef : ∀ (args : Array Value) (w : World), (callFunc fs args).run Try.prog w = .ok (.enter fs args) w)
    (hG : ∀ n w, goodB t p = true → Calls Try.prog fs #[.agg #[.int .i64 t, .int .i64 p], .int .i64 n] w fun e w' => e = .returned (.tuple #[.int .i64 (G n).1, .bool (G n).2]) ∧ Below w.heap.size w w') :
    Calls Try.prog 41 #[.agg #[.int .i64 t, .int .i64 p], .int .i64 k, .func (.func fs) #[] #[]] w (RetTab (hvN G) t p k w) := by
  obtain ⟨i0, hi, hi0, hi1, hi2⟩ := info_parts info3
  have HM := Lib.hid (fun w => isMap_any t p w)
  cases hg : goodB t p
  · have HA : Hid (askL t p k = false) := Lib.hid (by rw [askL, hg]; rfl)
    have HY : Hid (tabA (fun _ _ => hvN G) t p k = []) := Lib.hid (tabA_no HA.out)
    rw [hg] at HM
    clear hg hG hef
    go_enter Try.func41, Try.ntmps41
    go_wp2_with fail
    refine (HM.out _).mono ?_
    rintro e w1 ⟨rfl, hb1⟩
    obtain ⟨c0, c1, hz, hb⟩ := map_block hb1
    clear hb1
    go_wp2_with fail
    go_ret2
    exact retI_none HY.out HA.out hb
  · rw [hg] at HM
    have HG := Lib.hid (fun n w => hG n w hg)
    by_cases h1 : 1 ≤ k
    · by_cases h2 : k ≤ 300
      · have hask : askL t p k = true := by simp [askL, hg, inB, h1, h2]
        obtain ⟨K, rfl⟩ : ∃ K : Nat, k = K := ⟨k.toNat, by omega⟩
        have HA := Lib.hid hask
        have HY : Hid (tabA (fun _ _ => hvN G) t p K = tabL (hvN G) K) := Lib.hid (tabA_yes hask)
        have HL := Lib.hid (tabL_length (hvN G) K)
        have HF := Lib.hid (cpF_full (tabL (hvN G) K))
        have HS := Lib.hid (fun j => cpF_set (tabL (hvN G) K) j)
        have HZ := Lib.hid (cpF_zero (tabL (hvN G) K))
        have HAT := Lib.hid (fun j (hj : j < K) => tabL_at (g := hvN G) hj)
        have HCA := Lib.hid (fun j (hj : j < K) => cpF_at (xs := tabL (hvN G) K) (j := j) (k := j) (by rw [HL.out]; exact hj))
        have HNL := Lib.hid (cpF_length (tabL (hvN G) K))
        rw [HL.out] at HF HZ HNL
        have h1' : ¬ ((K : Int) < 1) := by omega
        have h2' : ¬ (300 < (K : Int)) := by omega
        have hK1 : 1 ≤ (K : Int) := h1
        clear hask hg hG h1
        go_enter Try.func41, Try.ntmps41
        go_wp2_with fail
        refine (HM.out _).mono ?_
        rintro e w1 ⟨rfl, hb1⟩
        obtain ⟨c0, c1, hz, hb⟩ := map_block hb1
        have HB := Lib.hid hb
        clear hb1 hb
        go_wp2_with (at_make; refine wpList_make_full _ rfl _ _ 31 rfl w1.heap.size 3 i0 (.int .i64 0) 1 Try.underlying31 hi hi0 hi1 .i64 .i64 K K K rfl rfl rfl rfl ?c1 ?c2 ?c3 ?_; rotate_right; intro w3 hown3 hgrow3)
        case c1 => rw [hi2]; omega
        case c2 => unfold maxLen; omega
        case c3 => exact Nat.le_refl _
        have HW3 : Hid (Below w1.heap.size w1 w3) := Lib.hid ((Below.refl _ w1).grown hgrow3 (Nat.le_refl _) (fun k e => by simp at e))
        have HO3 : Hid (w3.ownsRow w1.heap.size 3 1 (.slice (some ⟨w1.heap.size, 0, none⟩) K K) K ((cpF (tabL (hvN G) K) 0).map (Value.int .i64))) := Lib.hid (by
          rw [HZ.out, List.map_replicate]
          have := hown3
          rw [show (Value.int .i64 0).cells = #[Value.int .i64 0] from rfl, Nat.mul_one, toList_madeCells_one] at this
          simpa using this)
        have d0 : w3.cell? ⟨w.heap.size, 0, none⟩ = some (.int .i64 t) := (HW3.out.cell (p := ⟨w.heap.size, 0, none⟩) hz).trans c0
        have d1 : w3.cell? ⟨w.heap.size, 1, none⟩ = some (.int .i64 p) := (HW3.out.cell (p := ⟨w.heap.size, 1, none⟩) hz).trans c1
        clear hown3 hgrow3 c0 c1
        go_loopw [27] (fun i wr => ∃ j : Nat, j ≤ K ∧ i = .int .i64 j ∧ wr.ownsRow w1.heap.size 3 1 (.slice (some ⟨w1.heap.size, 0, none⟩) K K) K ((cpF (tabL (hvN G) K) j).map (Value.int .i64)) ∧ Below w1.heap.size w1 wr ∧ wr.cell? ⟨w.heap.size, 0, none⟩ = some (.int .i64 t) ∧ wr.cell? ⟨w.heap.size, 1, none⟩ = some (.int .i64 p)) (fun i _ => K - (RowKit.intOf i).toNat)
        case atStart => exact ⟨0, by omega, rfl, HO3.out, HW3.out, d0, d1⟩
        case round =>
          clear d0 d1
          obtain ⟨j, hj, rfl, hown, hbr, c0, c1⟩ := hrel
          have HO := Lib.hid hown
          have HBR := Lib.hid hbr
          have hzr := hbr.size
          by_cases hlt : j < K
          · have hjK : (j : Int) < (K : Int) := by omega
            have HGJ := Lib.hid (fun w => HG.out ((j : Int) + 1) w)
            have hay := HAT.out j hlt
            have HSJ := Lib.hid (HS.out j)
            rw [hay] at HSJ
            have hsz2 : w1.heap.size < wr.heap.size := (World.ownsRow.lt hown w1.heap.size rfl).2
            clear hown hbr hay
            cases hok : (G ((j : Int) + 1)).2
            · have HV : Hid (hvN G ((j : Int) + 1) = -1) := Lib.hid (by rw [hvN, hok]; rfl)
              rw [HV.out] at HSJ
              rw [hok] at HGJ
              clear hok
              go_wp2_with fail
              refine (HGJ.out _).mono ?_
              rintro e w4 ⟨rfl, hb4⟩
              have e0 := kept_cell hb4 (by omega) c0
              have e1 := kept_cell hb4 (by omega) c1
              have HO4 := Lib.hid (ownsRow_kept HO.out hb4)
              have HB4 := Lib.hid (HBR.out.trans (hb4.mono hzr))
              obtain ⟨u, qc⟩ : ∃ u, w4.cell? ⟨w1.heap.size, j, none⟩ = some (.int .i64 u) := by
                obtain ⟨u, hu⟩ := HCA.out j hlt
                exact ⟨u, by rw [World.ownsRow.cellAt HO4.out j (by omega)]; exact hu⟩
              have qf : w4.frozen? ⟨w1.heap.size, j, none⟩ = false := World.ownsRow.frozenAt HO4.out j
              have hw1 : w1.heap.size ≤ w1.heap.size := Nat.le_refl _
              have hst := World.ownsRow.stored HO4.out j (.int .i64 (-1))
              rw [HSJ.out] at hst
              have HST := Lib.hid hst.1
              have hne1 : ¬ (w1.heap.size = w.heap.size) := by omega
              have hne2 : ¬ (w.heap.size = w1.heap.size) := by omega
              have f0 := (World.cell?_setCell_other w4 ⟨w1.heap.size, j, none⟩ ⟨w.heap.size, 0, none⟩ (.int .i64 (-1)) (by simp <;> omega)).trans e0
              have f1 := (World.cell?_setCell_other w4 ⟨w1.heap.size, j, none⟩ ⟨w.heap.size, 1, none⟩ (.int .i64 (-1)) (by simp <;> omega)).trans e1
              clear hb4 c0 c1 hst
              go_wp2_with fail
              exact ⟨⟨j + 1, hlt, by go_num, HST.out, HB4.out.setCell (p := ⟨w1.heap.size, j, none⟩) hw1 _, f0, f1⟩, by simp [RowKit.intOf]; omega⟩
            · have HV : Hid (hvN G ((j : Int) + 1) = (G ((j : Int) + 1)).1) := Lib.hid (by rw [hvN, hok]; rfl)
              rw [HV.out] at HSJ
              rw [hok] at HGJ
              obtain ⟨x, hx⟩ : ∃ x, (G ((j : Int) + 1)).1 = x := ⟨_, rfl⟩
              rw [hx] at HSJ HGJ
              clear hok hx HV
              go_wp2_with fail
              refine (HGJ.out _).mono ?_
              rintro e w4 ⟨rfl, hb4⟩
              have e0 := kept_cell hb4 (by omega) c0
              have e1 := kept_cell hb4 (by omega) c1
              have HO4 := Lib.hid (ownsRow_kept HO.out hb4)
              have HB4 := Lib.hid (HBR.out.trans (hb4.mono hzr))
              obtain ⟨u, qc⟩ : ∃ u, w4.cell? ⟨w1.heap.size, j, none⟩ = some (.int .i64 u) := by
                obtain ⟨u, hu⟩ := HCA.out j hlt
                exact ⟨u, by rw [World.ownsRow.cellAt HO4.out j (by omega)]; exact hu⟩
              have qf : w4.frozen? ⟨w1.heap.size, j, none⟩ = false := World.ownsRow.frozenAt HO4.out j
              have hw1 : w1.heap.size ≤ w1.heap.size := Nat.le_refl _
              have hst := World.ownsRow.stored HO4.out j (.int .i64 x)
              rw [HSJ.out] at hst
              have HST := Lib.hid hst.1
              have f0 := (World.cell?_setCell_other w4 ⟨w1.heap.size, j, none⟩ ⟨w.heap.size, 0, none⟩ (.int .i64 x) (by simp <;> omega)).trans e0
              have f1 := (World.cell?_setCell_other w4 ⟨w1.heap.size, j, none⟩ ⟨w.heap.size, 1, none⟩ (.int .i64 x) (by simp <;> omega)).trans e1
              clear hb4 c0 c1 hst
              go_wp2_with fail
              exact ⟨⟨j + 1, hlt, by go_num, HST.out, HB4.out.setCell (p := ⟨w1.heap.size, j, none⟩) hw1 _, f0, f1⟩, by simp [RowKit.intOf]; omega⟩
          · have HJ : Hid (j = K) := Lib.hid (by omega)
            have hjj : ¬ ((j : Int) < (K : Int)) := by omega
            clear hown hbr hj hlt
            go_wp2_with fail
            go_ret2
            rw [RetTab, HA.out, HY.out]
            refine ⟨_, rfl, ?_, HB.out.trans (HBR.out.mono (Nat.le_of_lt hz))⟩
            have h2 := HO.out
            rw [HJ.out, HF.out] at h2
            unfold IntsAt
            rw [HL.out]
            exact ownsRow_base h2 (Nat.le_of_lt hz)
      · have HA : Hid (askL t p k = false) := Lib.hid (by simp [askL, inB, h2])
        have HY : Hid (tabA (fun _ _ => hvN G) t p k = []) := Lib.hid (tabA_no HA.out)
        have h1' : ¬ (k < 1) := by omega
        have h2' : 300 < k := by omega
        clear hg hG hef HG h1 h2
        go_enter Try.func41, Try.ntmps41
        go_wp2_with fail
        refine (HM.out _).mono ?_
        rintro e w1 ⟨rfl, hb1⟩
        obtain ⟨c0, c1, hz, hb⟩ := map_block hb1
        clear hb1
        go_wp2_with fail
        go_ret2
        exact retI_none HY.out HA.out hb
    · have HA : Hid (askL t p k = false) := Lib.hid (by simp [askL, inB, h1])
      have HY : Hid (tabA (fun _ _ => hvN G) t p k = []) := Lib.hid (tabA_no HA.out)
      have h1' : k < 1 := by omega
      clear hg hG hef HG h1
      go_enter Try.func41, Try.ntmps41
      go_wp2_with fail
      refine (HM.out _).mono ?_
      rintro e w1 ⟨rfl, hb1⟩
      obtain ⟨c0, c1, hz, hb⟩ := map_block hb1
      clear hb1
      go_wp2_with fail
      go_ret2
      exact retI_none HY.out HA.out hb
end Go.Proofs.Ytponmblponfdaaa
