/-
  THE WALK OF THE LAW 'NumberOfExponents'.
-/
import Derived.Test.YtkikmmnmppikpaaNeS
import Derived.Test.YtkikmmnmppikpaaSs
namespace Go.Proofs.Ytkikmmnmppikpaa
open Go.RowKit
set_option linter.unusedVariables false

set_option maxHeartbeats 4000000 in
theorem fnExactNumberOfExponents_law (v : Value) (xss : List (List Int)) (w : World) (harg : ArgSS w v xss) :
    Calls Try.prog 5 #[v] w fun e w' => e = .returned (.bool true) ∧ Below w.heap.size w w' := by
  have HSZ := Lib.hid (szIntSS_any xss v w harg)
  have HTO := Lib.hid (fun h1 h2 W (hb : Below w.heap.size w W) => toIntSS_any xss v W h1 h2 (harg.kept hb))
  have HS := Lib.hid (fun W u h1 h2 (hm : SSIn W u xss) => sNumberOfExponents xss u W hm h2 h1)
  have HI := Lib.hid (fun W u h1 h2 (hm : SSIn W u xss) => iNumberOfExponents xss u W hm h2 h1)
  have HQ := Lib.hid (fun W u u' h1 h2 (hm : SSIn W u xss) (hm' : SSIn W u' xss) => eqSS_any xss u u' W h1 h2 hm hm')
  generalize neV xss = r0 at HS HI
  generalize neB xss = r1 at HS HI
  obtain ⟨_, a, cap, rfl, _⟩ := harg
  have HN : Hid (∃ n, xss.length = n) := Lib.hid ⟨_, rfl⟩
  obtain ⟨n, hn⟩ := HN.out
  rw [hn] at HSZ HTO HS HI HQ ⊢
  clear hn HN
  go_enter Try.func5, Try.ntmps5
  go_wp2_with fail
  refine HSZ.out.mono ?_
  rintro e w1 ⟨r, rfl, hr, rfl⟩
  rcases hr with hr | ⟨r0', r1', h1, h2⟩
  · go_wp2_with fail
    go_ret
    exact ⟨rfl, Below.refl _ _⟩
  have hr2 : ¬ r < 0 := by omega
  replace HTO := Lib.hid (HTO.out h1 h2)
  replace HS := Lib.hid (fun W u hm => HS.out W u h1 h2 hm)
  replace HI := Lib.hid (fun W u hm => HI.out W u h1 h2 hm)
  replace HQ := Lib.hid (fun W u u' hm hm' => HQ.out W u u' h1 h2 hm hm')
  clear h1 h2
  go_wp2_with fail
  refine (HTO.out _ (Below.refl _ _)).mono ?_
  rintro e w2 ⟨u0, rfl, m0, hb2⟩
  have HB := Lib.hid hb2
  have M := Lib.hid m0
  clear m0 hb2
  go_wp2_with fail
  refine (HS.out _ _ M.out).mono ?_
  rintro e w3 ⟨rfl, hb3⟩
  replace HB := Lib.hid (HB.out.trans (hb3.mono HB.out.size))
  clear hb3 M
  go_wp2_with fail
  refine (HTO.out _ HB.out).mono ?_
  rintro e w4 ⟨u1, rfl, m1, hb4⟩
  replace HB := Lib.hid (HB.out.trans (hb4.mono HB.out.size))
  have M := Lib.hid m1
  clear m1 hb4
  go_wp2_with fail
  refine (HI.out _ _ M.out).mono ?_
  rintro e w5 ⟨rfl, hb5⟩
  replace HB := Lib.hid (HB.out.trans (hb5.mono HB.out.size))
  replace M := Lib.hid (M.out.kept hb5)
  clear hb5
  go_wp2_with fail
  refine (HTO.out _ HB.out).mono ?_
  rintro e w6 ⟨u2, rfl, m2, hb6⟩
  replace HB := Lib.hid (HB.out.trans (hb6.mono HB.out.size))
  replace M := Lib.hid (M.out.kept hb6)
  have M2 := Lib.hid m2
  clear m2 hb6
  go_wp2_with fail
  refine (HQ.out _ _ _ M.out M2.out).mono ?_
  rintro e w7 ⟨rfl, hb7⟩
  replace HB := Lib.hid (HB.out.trans (hb7.mono HB.out.size))
  clear hb7
  go_wp2_with fail
  go_ret
  exact ⟨rfl, HB.out⟩
end Go.Proofs.Ytkikmmnmppikpaa
