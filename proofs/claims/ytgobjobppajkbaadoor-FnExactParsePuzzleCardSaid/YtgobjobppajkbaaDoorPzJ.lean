/-
  'IsClue', 'IsPuzzle', 'DoesFit' of the program, 'DoesFit' of the model.
-/
import Derived.Test.YtgobjobppajkbaaDoorDem
import Derived.Test.YtgobjobppajkbaaDoorPzI
namespace Go.Proofs.YtgobjobppajkbaaDoor
open Go.RowKit
set_option linter.unusedVariables false

theorem clIn_one {w : World} {g : Nat} {k a b : Int} (hg : g < w.heap.size) (h : PtCell w g 0 (k, a, b)) : ClIn w (some ⟨g, 0, none⟩) [(k, a, b)] := by
  intro j hj
  obtain rfl : j = 0 := by simpa using hj
  exact ⟨g, 0, rfl, hg, h⟩
theorem one_clB (q : Pt) : [q].all clB = clB q := by simp

theorem pzB_eq (t p : Int) (ps : List Pt) : pzB t p ps = (goodB t p && decide (ps.length ≤ 6) && !(!ps.all clB)) := by simp [pzB]

set_option maxHeartbeats 1000000 in
theorem isPuzzle_any (t p : Int) (ps : List Pt) (v : Value) (w : World) (hl : ps.length ≤ 1048576) (h : PuzIn w v t p ps) :
    Calls Tryd.prog 60 #[v] w fun e w' => e = .returned (.bool (pzB t p ps)) ∧ Below w.heap.size w w' := by
  obtain ⟨a, c, rfl, _, hx⟩ := h.cl
  clear h
  have HB := Lib.hid (below_new w (.cells #[.int .i64 t, .int .i64 p, .slice a ps.length c] 55))
  have B := Lib.hid (Bz.new w t p (.slice a ps.length c) 55)
  have HG := Lib.hid (fun W => isMap_any t p W)
  have HN := Lib.hid (fun W (hb : Below w.heap.size w W) => hasNone_any ps a c W hl (hx.keep hb))
  have HE := Lib.hid (pzB_eq t p ps)
  have hK : (ps.length : Int) ≤ 1048576 := by omega
  generalize pzB t p ps = r at HE ⊢
  generalize ps.all clB = s at HN HE
  generalize goodB t p = g at HG HE
  obtain ⟨K, hKK⟩ : ∃ K, K = ps.length := ⟨_, rfl⟩
  rw [← hKK] at HB B HN HE hK ⊢
  clear hx hl hKK
  cases g
  · go_enter Tryd.func60, Tryd.ntmps60
    go_wp2_with (go_at_call 37; refine (HG.out _).mono ?_; rintro e w1 ⟨rfl, hb1⟩; have HB1 := Lib.hid (HB.out.trans (hb1.mono HB.out.size)); clear hb1)
    go_ret
    exact ⟨ret_bool (by rw [HE.out]; rfl), HB1.out⟩
  · by_cases h6 : (K : Int) ≤ 6
    · have hd : decide ((K : Int) ≤ 6) = true := by simpa using h6
      have HD : Hid (decide (K ≤ 6) = true) := Lib.hid (by simp; omega)
      go_enter Tryd.func60, Tryd.ntmps60
      go_wp2_with (go_at_call 37; refine (HG.out _).mono ?_; rintro e w1 ⟨rfl, hb1⟩; have HB1 := Lib.hid (HB.out.trans (hb1.mono HB.out.size)); obtain ⟨⟨p0, p1, p2⟩, p3⟩ := (B.out.kept hb1); clear hb1)
      refine (HN.out _ HB1.out).mono ?_
      rintro e w2 ⟨rfl, hb2⟩
      have HB2 := Lib.hid (HB1.out.trans (hb2.mono HB1.out.size))
      clear hb2
      go_wp2_with fail
      go_ret
      exact ⟨ret_bool (by rw [HE.out, HD.out]; simp), HB2.out⟩
    · have hd : decide ((K : Int) ≤ 6) = false := by simpa using h6
      have HD : Hid (decide (K ≤ 6) = false) := Lib.hid (by simp; omega)
      go_enter Tryd.func60, Tryd.ntmps60
      go_wp2_with (go_at_call 37; refine (HG.out _).mono ?_; rintro e w1 ⟨rfl, hb1⟩; have HB1 := Lib.hid (HB.out.trans (hb1.mono HB.out.size)); obtain ⟨⟨p0, p1, p2⟩, p3⟩ := (B.out.kept hb1); clear hb1)
      go_ret
      exact ⟨ret_bool (by rw [HE.out, HD.out]; simp), HB1.out⟩

/-- What DoesFit comes to. -/
def dfA (t p : Int) (q : Pt) (n : Int) : Bool := goodB t p && clB q && inB n 1 60
def dfX (t p : Int) (q : Pt) (n : Int) : Bool := dfA t p q n && fitP t p q n
theorem inB_hid {n : Int} (h : inB n 1 60 = true) : 1 ≤ n ∧ n ≤ 60 := by simpa [inB] using h

end Go.Proofs.YtgobjobppajkbaaDoor
