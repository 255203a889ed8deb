/-
  THE WALKS OF THE LAWS 'MachineText'.
-/
import Derived.Test.YtjnghlnhogalbaaDoorMtI
import Derived.Deep.RegionWith
namespace Go.Proofs.YtjnghlnhogalbaaDoor
open Go.RowKit
set_option linter.unusedVariables false

set_option maxHeartbeats 4000000 in
theorem fnExactMachineText_law (v : Value) (ns ds : List Int) (w : World) (harg : ArgM w v ns ds) (htab : Tab w) :
    Calls Tryd.prog 5 #[v] w fun e w' => e = .returned (.bool true) ∧ Below w.heap.size w w' := by
  have HT := Lib.hid htab
  clear htab
  have HSZ := Lib.hid (fun W (hb : Below w.heap.size w W) => szMachine_any ns ds v W (harg.kept hb))
  have HTO := Lib.hid (fun l1 l2 W (hb : Below w.heap.size w W) => toMachine_any ns ds v W l1 l2 (harg.kept hb))
  obtain ⟨v1, v2, rfl, ⟨a1, c1, rfl, _⟩, ⟨a2, c2, rfl, _⟩, h1, h2⟩ := harg
  by_cases hsz : 1048576 < ns.length + ds.length
  case pos =>
    have HE : Hid (szM ns.length ds.length = -1) := Lib.hid (by rw [szM, if_pos hsz])
    rw [HE.out] at HSZ
    have HB := Lib.hid (below_alloc w (.cells #[.slice a1 ns.length c1, .slice a2 ds.length c2] 43))
    clear h1 h2 hsz HTO
    generalize ns.length = n1 at *
    generalize ds.length = n2 at *
    go_enter Tryd.func5, Tryd.ntmps5
    go_wp2_with fail
    refine (HSZ.out _ HB.out).mono ?_
    rintro e w1 ⟨rfl, hb1⟩
    go_wp2_with fail
    go_ret
    exact ⟨rfl, HB.out.trans (hb1.mono HB.out.size)⟩
  have HE : Hid (szM ns.length ds.length = 1048576 - (ns.length : Int) - (ds.length : Int)) := Lib.hid (by rw [szM, if_neg hsz])
  have hd0 : ¬ (1048576 - (ns.length : Int) - (ds.length : Int) < 0) := by omega
  rw [HE.out] at HSZ
  have l1 : ns.length ≤ 1048576 := by omega
  have l2 : ds.length ≤ 1048576 := by omega
  replace HTO := Lib.hid (HTO.out l1 l2)
  have HS := Lib.hid (fun W u (hm : MacIn W u ns ds) => sMachineText ns ds u W l1 l2 hm)
  have HI := Lib.hid (fun W u (ht : Tab W) (hm : MacIn W u ns ds) => iMachineText ns ds u W l1 l2 ht hm)
  have HQ := Lib.hid (fun W u u' (hm : MacIn W u ns ds) (hm' : MacIn W u' ns ds) => eqMachine_any ns ds u u' W l1 l2 hm hm')
  generalize mtX ns ds = r0 at HS HI
  generalize maB ns ds = r1 at HS HI
  have B := Lib.hid (Bx.new w (.slice a1 ns.length c1) (.slice a2 ds.length c2) 43)
  have HB := Lib.hid (below_alloc w (.cells #[.slice a1 ns.length c1, .slice a2 ds.length c2] 43))
  have HV : Hid (∃ V : Value, V = .agg #[.slice a1 ns.length c1, .slice a2 ds.length c2]) := Lib.hid ⟨_, rfl⟩
  have hsl : (1048576 - (ns.length : Int) - (ds.length : Int)) ≤ 1048576 := by omega
  generalize (1048576 - (ns.length : Int) - (ds.length : Int)) = left at *
  clear h1 h2 hsz HE l1 l2
  obtain ⟨n1, hn1⟩ : ∃ n1, ns.length = n1 := ⟨_, rfl⟩
  obtain ⟨n2, hn2⟩ : ∃ n2, ds.length = n2 := ⟨_, rfl⟩
  rw [hn1, hn2] at HSZ HTO B HB ⊢
  clear hn1 hn2 HV
  go_enter Tryd.func5, Tryd.ntmps5
  go_wp2_with fail
  refine (HSZ.out _ HB.out).mono ?_
  rintro e w1 ⟨rfl, hb1⟩
  replace B := Lib.hid (B.out.kept hb1)
  replace HB := Lib.hid (HB.out.trans (hb1.mono HB.out.size))
  clear hb1
  obtain ⟨p0, p1, p2⟩ := B.out
  go_wp2_with fail
  refine (HTO.out _ HB.out).mono ?_
  rintro e w2 ⟨u0, rfl, m0, hb2⟩
  replace B := Lib.hid (B.out.kept hb2)
  replace HB := Lib.hid (HB.out.trans (hb2.mono HB.out.size))
  have M := Lib.hid m0.isIn
  clear hb2 m0 p0 p1 p2
  go_wp2_with fail
  refine (HS.out _ _ M.out).mono ?_
  rintro e w3 ⟨rfl, hb3⟩
  replace B := Lib.hid (B.out.kept hb3)
  replace HB := Lib.hid (HB.out.trans (hb3.mono HB.out.size))
  clear hb3 M
  obtain ⟨p0, p1, p2⟩ := B.out
  go_wp2_with fail
  refine (HTO.out _ HB.out).mono ?_
  rintro e w4 ⟨u1, rfl, m1, hb4⟩
  replace B := Lib.hid (B.out.kept hb4)
  replace HB := Lib.hid (HB.out.trans (hb4.mono HB.out.size))
  have M := Lib.hid m1.isIn
  obtain ⟨_, a3, c3, a4, c4, rfl, _⟩ := m1
  have X := Lib.hid (Bx.new w4 (.slice a3 ns.length c3) (.slice a4 ds.length c4) 46)
  have hz4 : w.heap.size < w4.heap.size := B.out.2.2
  replace B := Lib.hid (B.out.grow (.cells #[.slice a3 ns.length c3, .slice a4 ds.length c4] 46))
  replace M := Lib.hid (M.out.kept (below_alloc w4 (.cells #[.slice a3 ns.length c3, .slice a4 ds.length c4] 46)))
  replace HB := Lib.hid (HB.out.trans ((below_alloc w4 (.cells #[.slice a3 ns.length c3, .slice a4 ds.length c4] 46)).mono HB.out.size))
  clear hb4 p0 p1 p2
  go_wp2_with fail
  refine (HI.out _ _ (tab_below HT.out HB.out) M.out).mono ?_
  rintro e w5 ⟨rfl, hb5⟩
  replace B := Lib.hid (B.out.kept hb5)
  replace X := Lib.hid (X.out.kept hb5)
  replace M := Lib.hid (M.out.kept hb5)
  replace HB := Lib.hid (HB.out.trans (hb5.mono HB.out.size))
  clear hb5
  obtain ⟨p0, p1, p2⟩ := B.out
  obtain ⟨q0, q1, q2⟩ := X.out
  go_wp2_with fail
  go_region_with (first
    | (go_at_call 20; refine (HTO.out _ (by first | exact HB.out | exact HB.out.drew | exact HB.out.drew.drew)).mono ?_; rintro e w6 ⟨u2, rfl, m2, hb6⟩; have M6 := Lib.hid m2.isIn; clear m2; have HB6 : Hid (Below w5.heap.size w5 w6) := Lib.hid (by first | exact hb6 | exact (Below.refl _ _).drew.trans hb6 | exact (Below.refl _ _).drew.drew.trans hb6); clear hb6; have qq0 := (HB6.out.cell (p := ⟨w4.heap.size, 0, none⟩) q2).trans q0; have qq1 := (HB6.out.cell (p := ⟨w4.heap.size, 1, none⟩) q2).trans q1)
    | (go_at_call 22; refine (HQ.out _ _ _ (M.out.kept (by first | exact HB6.out | exact HB6.out.drew | exact HB6.out.drew.drew)) (by first | exact M6.out | exact M6.out.kept (Below.refl _ _).drew | exact M6.out.kept (Below.refl _ _).drew.drew)).mono ?_; rintro e w7 ⟨rfl, hb7⟩; have HB7 : Hid (Below w.heap.size w w7) := Lib.hid ((HB.out.trans (HB6.out.mono HB.out.size)).trans (by first | exact hb7.mono (Nat.le_trans HB.out.size HB6.out.size) | exact ((Below.refl _ _).drew.trans hb7).mono (Nat.le_trans HB.out.size HB6.out.size) | exact ((Below.refl _ _).drew.drew.trans hb7).mono (Nat.le_trans HB.out.size HB6.out.size))); clear hb7))
  all_goals
    go_wp2_with fail
    go_ret
    exact ⟨rfl, by first | exact HB7.out | exact HB7.out.drew | exact HB7.out.drew.drew⟩
end Go.Proofs.YtjnghlnhogalbaaDoor
