/-
  'FractionFor' OF BOTH.
-/
import Derived.Test.YtioagnoodgfnpaaMaF
namespace Go.Proofs.Ytioagnoodgfnpaa
open Go.RowKit
set_option linter.unusedVariables false

def frcB (ns ds : List Int) (n : Int) : Bool := maB ns ds && (manB n && decide (0 ≤ maF ns ds n))
def frcV (ns ds : List Int) (n : Int) : Int := if frcB ns ds n = true then maF ns ds n else 0
theorem ret_iv {a a' : Int} {b b' : Bool} (h : a = a') (h' : b = b') : Ending.returned (.tuple #[.int .i64 a, .bool b]) = .returned (.tuple #[.int .i64 a', .bool b']) := by rw [h, h']
theorem frc_no {ns ds : List Int} {n : Int} (h : frcB ns ds n = false) : frcV ns ds n = 0 := by rw [frcV, h]; rfl
theorem frc_yes {ns ds : List Int} {n : Int} (h : frcB ns ds n = true) : frcV ns ds n = maF ns ds n := by rw [frcV, h]; rfl
theorem MacIn.agg {w : World} {v1 v2 : Value} {ns ds : List Int} (h1 : IntsIn w v1 ns) (h2 : IntsIn w v2 ds) : MacIn w (.agg #[v1, v2]) ns ds := ⟨v1, v2, rfl, h1, h2⟩

set_option maxHeartbeats 2000000 in
theorem sFractionFor (ns ds : List Int) (n : Int) (v : Value) (w : World) (l1 : ns.length ≤ 1048576) (l2 : ds.length ≤ 1048576) (h : MacIn w v ns ds) :
    Calls Try.prog 18 #[v, .int .i64 n] w fun e w' => e = .returned (.tuple #[.int .i64 (frcV ns ds n), .bool (frcB ns ds n)]) ∧ Below w.heap.size w w' := by
  obtain ⟨v1, v2, rfl, i1, i2⟩ := h
  have B := Lib.hid (Bx.new w v1 v2 28)
  have M := Lib.hid ((MacIn.agg i1 i2).kept (below_alloc w (.cells #[v1, v2] 28)))
  have HB := Lib.hid (below_alloc w (.cells #[v1, v2] 28))
  have HG := Lib.hid (fun W hm => maGood_any ns ds (.agg #[v1, v2]) W l1 l2 hm)
  have HM := Lib.hid (fun W => maIs_any n W)
  have HF := Lib.hid (fun W hg hn hm => maFirst_any ns ds n (.agg #[v1, v2]) W hg hn hm)
  have HE : Hid (frcB ns ds n = (maB ns ds && (manB n && decide (0 ≤ maF ns ds n)))) := Lib.hid rfl
  have HNO := Lib.hid (fun h => frc_no (ns := ns) (ds := ds) (n := n) h)
  have HYES := Lib.hid (fun h => frc_yes (ns := ns) (ds := ds) (n := n) h)
  have HIN := Lib.hid (maF_in ns ds n)
  generalize hF : maF ns ds n = R at *
  generalize hG : maB ns ds = bg at *
  generalize hM : manB n = bm at *
  clear i1 i2 hF hG hM
  go_enter Try.func18, Try.ntmps18
  go_wp2_with fail
  refine (HG.out _ M.out).mono ?_
  rintro e w1 ⟨rfl, hb1⟩
  replace B := Lib.hid (B.out.kept hb1)
  replace M := Lib.hid (M.out.kept hb1)
  replace HB := Lib.hid (HB.out.trans (hb1.mono HB.out.size))
  clear hb1
  obtain ⟨p0, p1, p2⟩ := B.out
  cases bg
  case false =>
    go_wp2_with fail
    go_ret2
    exact ⟨ret_iv (HNO.out HE.out).symm HE.out.symm, HB.out⟩
  case true =>
    go_wp2_with fail
    refine (HM.out _).mono ?_
    rintro e w2 ⟨rfl, rfl⟩
    cases bm
    case false =>
      go_wp2_with fail
      go_ret2
      exact ⟨ret_iv (HNO.out HE.out).symm HE.out.symm, HB.out⟩
    case true =>
      go_wp2_with fail
      refine (HF.out _ (by simp) (by simp) M.out).mono ?_
      rintro e w2 ⟨rfl, hb2⟩
      replace B := Lib.hid (B.out.kept hb2)
      replace M := Lib.hid (M.out.kept hb2)
      replace HB := Lib.hid (HB.out.trans (hb2.mono HB.out.size))
      clear hb2 p0 p1 p2
      obtain ⟨p0, p1, p2⟩ := B.out
      by_cases hr : 0 ≤ R
      · have hr2 : ¬ R < 0 := by omega
        have HT : Hid (frcB ns ds n = true) := Lib.hid (by rw [HE.out]; simp [hr])
        go_wp2_with fail
        refine (HF.out _ (by simp) (by simp) M.out).mono ?_
        rintro e w3 ⟨rfl, hb3⟩
        replace HB := Lib.hid (HB.out.trans (hb3.mono HB.out.size))
        clear hb3
        go_wp2_with fail
        go_ret2
        exact ⟨ret_iv (HYES.out HT.out).symm HT.out.symm, HB.out⟩
      · have hr2 : R < 0 := by omega
        have HT : Hid (frcB ns ds n = false) := Lib.hid (by rw [HE.out]; simp [hr])
        go_wp2_with fail
        go_ret2
        exact ⟨ret_iv (HNO.out HT.out).symm HT.out.symm, HB.out⟩

set_option maxHeartbeats 2000000 in
theorem iFractionFor (ns ds : List Int) (n : Int) (v : Value) (w : World) (l1 : ns.length ≤ 1048576) (l2 : ds.length ≤ 1048576) (h : MacIn w v ns ds) :
    Calls Try.prog 19 #[v, .int .i64 n] w fun e w' => e = .returned (.tuple #[.int .i64 (frcV ns ds n), .bool (frcB ns ds n)]) ∧ Below w.heap.size w w' := by
  obtain ⟨v1, v2, rfl, i1, i2⟩ := h
  have B := Lib.hid (Bx.new w v1 v2 28)
  have M := Lib.hid ((MacIn.agg i1 i2).kept (below_alloc w (.cells #[v1, v2] 28)))
  have HB := Lib.hid (below_alloc w (.cells #[v1, v2] 28))
  have HG := Lib.hid (fun W hm => isMachine_any ns ds (.agg #[v1, v2]) W l1 l2 hm)
  have HM := Lib.hid (fun W => isMade_any n W)
  have HF := Lib.hid (fun W hg hn hm => visitOf_any ns ds n (.agg #[v1, v2]) W hg hn hm)
  have HE : Hid (frcB ns ds n = (maB ns ds && (manB n && decide (0 ≤ maF ns ds n)))) := Lib.hid rfl
  have HNO := Lib.hid (fun h => frc_no (ns := ns) (ds := ds) (n := n) h)
  have HYES := Lib.hid (fun h => frc_yes (ns := ns) (ds := ds) (n := n) h)
  have HIN : Hid (maF ns ds n = -1 ∨ 0 ≤ maF ns ds n) := Lib.hid (by rcases maF_in ns ds n with h | ⟨j, h, _⟩; exact .inl h; exact .inr (by omega))
  generalize hF : maF ns ds n = R at *
  generalize hG : maB ns ds = bg at *
  generalize hM : manB n = bm at *
  clear i1 i2 hF hG hM
  go_enter Try.func19, Try.ntmps19
  go_wp2_with fail
  refine (HG.out _ M.out).mono ?_
  rintro e w1 ⟨rfl, hb1⟩
  replace B := Lib.hid (B.out.kept hb1)
  replace M := Lib.hid (M.out.kept hb1)
  replace HB := Lib.hid (HB.out.trans (hb1.mono HB.out.size))
  clear hb1
  obtain ⟨p0, p1, p2⟩ := B.out
  cases bg
  case false =>
    go_wp2_with fail
    go_ret2
    exact ⟨ret_iv (HNO.out HE.out).symm HE.out.symm, HB.out⟩
  case true =>
    go_wp2_with fail
    refine (HM.out _).mono ?_
    rintro e w2 ⟨rfl, rfl⟩
    cases bm
    case false =>
      go_wp2_with fail
      go_ret2
      exact ⟨ret_iv (HNO.out HE.out).symm HE.out.symm, HB.out⟩
    case true =>
      go_wp2_with fail
      refine (HF.out _ (by simp) (by simp) M.out).mono ?_
      rintro e w2 ⟨rfl, hb2⟩
      have B2 := Lib.hid (Bx.new w2 (.int .i64 n) (.int .i64 R) 50)
      replace HB := Lib.hid (HB.out.trans (hb2.mono HB.out.size))
      have HB2 := Lib.hid (HB.out.trans ((below_alloc w2 (.cells #[.int .i64 n, .int .i64 R] 50)).mono HB.out.size))
      clear hb2 p0 p1 p2
      go_wp2_with fail
      refine (halts_any n R _).mono ?_
      rintro e w3 ⟨rfl, hb3⟩
      replace B2 := Lib.hid (B2.out.kept hb3)
      replace HB := Lib.hid (HB2.out.trans (hb3.mono HB2.out.size))
      clear hb3
      obtain ⟨p0, p1, p2⟩ := B2.out
      by_cases hr : R = -1
      · have HT : Hid (frcB ns ds n = false) := Lib.hid (by rw [HE.out]; subst hr; rfl)
        have hd : decide (R = -1) = true := by simpa using hr
        go_wp2_with fail
        go_ret2
        exact ⟨ret_iv (HNO.out HT.out).symm HT.out.symm, HB.out⟩
      · have HT : Hid (frcB ns ds n = true) := Lib.hid (by rw [HE.out]; rcases HIN.out with h | h; exact (hr h).elim; simp [h])
        have hd : decide (R = -1) = false := by simpa using hr
        go_wp2_with fail
        go_ret2
        exact ⟨ret_iv (HYES.out HT.out).symm HT.out.symm, HB.out⟩
end Go.Proofs.Ytioagnoodgfnpaa
