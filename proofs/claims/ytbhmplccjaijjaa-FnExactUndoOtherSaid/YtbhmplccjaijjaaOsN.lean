/-
  'OtherNext', 'OtherAfter', 'OtherPath' of the model.
-/
import Derived.Test.YtbhmplccjaijjaaOs
import Derived.Test.YtbhmplccjaijjaaRowAt
import Derived.Test.YtbhmplccjaijjaaYes
namespace Go.Proofs.Ytbhmplccjaijjaa
open Go.RowKit
set_option linter.unusedVariables false

/-- Are there an other map, a number and steps? -/
def askO (ps : List Pt) (n k : Int) : Bool := omB ps && numB n && inB k 0 400
theorem askO_iff {ps : List Pt} {n k : Int} : askO ps n k = true ↔ omB ps = true ∧ numB n = true ∧ 0 ≤ k ∧ k ≤ 400 := by
  simp only [askO, inB, Bool.and_eq_true, decide_eq_true_eq, and_assoc]
theorem aftO_not {ps : List Pt} {f : Int → Int} {n k : Int} (h : askO ps n k = false) : aftO ps f n k = (0, false) := by
  unfold aftO
  rw [if_neg]
  rintro ⟨⟨h1, h2, h3⟩, h4⟩
  have hn : numB n = true := allB_at (f := f) (n := n) (j := 0) (k := k.toNat + 1) (by omega) h4
  rw [askO_iff.2 ⟨h1, hn, h2, h3⟩] at h
  cases h
theorem aftO_yes {ps : List Pt} {f : Int → Int} {n k : Int} (h : askO ps n k = true) : aftO ps f n k = if allB f n (k.toNat + 1) = true then (itr f k.toNat n, true) else (0, false) := by
  obtain ⟨h1, h2, h3, h4⟩ := askO_iff.1 h
  unfold aftO
  by_cases e : allB f n (k.toNat + 1) = true
  · rw [if_pos ⟨⟨h1, h3, h4⟩, e⟩, if_pos e]
  · rw [if_neg (fun x => e x.2), if_neg e]
theorem aftO_one {ps : List Pt} {f : Int → Int} {n : Int} (hg : omB ps = true) (hn : numB n = true) : aftO ps f n 1 = (if numB (f n) = true then f n else 0, numB (f n)) := by
  have hl : allB f n ((1 : Int).toNat + 1) = numB (f n) := by
    show allB f n 2 = _
    rw [show (2 : Nat) = 1 + 1 from rfl, allB_succ, allB_succ]
    simp [allB, itr, hn]
  rw [aftO_yes (askO_iff.2 ⟨hg, hn, by omega, by omega⟩), hl]
  by_cases h : numB (f n) = true
  · simp [h, itr]
  · simp [h]

theorem omAsked_any (ps : List Pt) (n k : Int) (v : Value) (w : World) (hl : ps.length ≤ 1048576) (h : OthIn w v ps) :
    Calls Try.prog 61 #[v, .int .i64 n, .int .i64 k] w fun e w' => e = .returned (.bool (askO ps n k)) ∧ Below w.heap.size w w' := by
  obtain ⟨u, rfl, hpi⟩ := h
  have HG := Lib.hid (fun X => omGood_any ps (.agg #[u]) (w.alloc X) hl ((show OthIn w (.agg #[u]) ps from ⟨u, rfl, hpi⟩).kept (below_new w X)))
  have HB := Lib.hid (fun X => below_new w X)
  have HE : Hid (askO ps n k = (omB ps && numB n && inB k 0 400)) := Lib.hid rfl
  generalize omB ps = b at HG HE
  clear hpi hl
  cases b
  case false =>
    go_enter Try.func61, Try.ntmps61
    go_wp2_with fail
    refine (HG.out _).mono ?_
    rintro e w1 ⟨rfl, hb1⟩
    have HB1 := Lib.hid ((HB.out _).trans (hb1.mono (HB.out _).size))
    clear hb1
    go_wp2_with fail
    go_ret
    exact ⟨ret_bool (by rw [HE.out]; rfl), HB1.out⟩
  case true =>
    have HN := Lib.hid (fun w => mpIs_any n w)
    have HI := Lib.hid (fun w => l1In_any k 0 400 w)
    generalize numB n = b at HN HE
    generalize inB k 0 400 = b2 at HI HE
    cases b
    case false =>
      go_enter Try.func61, Try.ntmps61
      go_wp2_with fail
      refine (HG.out _).mono ?_
      rintro e w1 ⟨rfl, hb1⟩
      have HB1 := Lib.hid ((HB.out _).trans (hb1.mono (HB.out _).size))
      clear hb1
      go_wp2_with fail
      refine (HN.out _).mono ?_
      rintro e w2 ⟨rfl, rfl⟩
      go_wp2_with fail
      go_ret
      exact ⟨ret_bool (by rw [HE.out]; rfl), HB1.out⟩
    case true =>
      go_enter Try.func61, Try.ntmps61
      go_wp2_with fail
      refine (HG.out _).mono ?_
      rintro e w1 ⟨rfl, hb1⟩
      have HB1 := Lib.hid ((HB.out _).trans (hb1.mono (HB.out _).size))
      clear hb1
      go_wp2_with fail
      refine (HN.out _).mono ?_
      rintro e w2 ⟨rfl, rfl⟩
      go_wp2_with fail
      refine (HI.out _).mono ?_
      rintro e w2 ⟨rfl, rfl⟩
      go_wp2_with fail
      go_ret
      exact ⟨ret_bool (by rw [HE.out]; simp), HB1.out⟩

theorem mpOneO_any (n : Int) (w : World) :
    Calls Try.prog 59 #[.int .i64 n] w fun e w' => e = .returned (.tuple #[.int .i64 (if numB n = true then n else 0), .bool (numB n)]) ∧ w = w' := by
  have HN := Lib.hid (fun w => mpIs_any n w)
  generalize numB n = b at *
  cases b
  all_goals
    go_enter Try.func59, Try.ntmps59
    go_wp2_with fail
    refine (HN.out _).mono ?_
    rintro e w2 ⟨rfl, rfl⟩
    go_wp2_with fail
    go_ret2
    exact ⟨rfl, rfl⟩

set_option maxHeartbeats 1000000 in
theorem sOtherNext (ps : List Pt) (n : Int) (v : Value) (w : World) (hl : ps.length ≤ 1048576) (h : OthIn w v ps) :
    Calls Try.prog 20 #[v, .int .i64 n] w fun e w' => e = .returned (.tuple #[.int .i64 (aftO ps (omN ps) n 1).1, .bool (aftO ps (omN ps) n 1).2]) ∧ Below w.heap.size w w' := by
  obtain ⟨u, rfl, hpi⟩ := h
  have HOI := Lib.hid (fun W (hb : Below w.heap.size w W) => (show OthIn w (.agg #[u]) ps from ⟨u, rfl, hpi⟩).kept hb)
  have HG := Lib.hid (fun X => omGood_any ps (.agg #[u]) (w.alloc X) hl (HOI.out _ (below_new w X)))
  have HB := Lib.hid (fun X => below_new w X)
  have HBo := Lib.hid (fun T => Bo.new w u T)
  have HN := Lib.hid (fun w => mpIs_any n w)
  clear hpi hl
  by_cases hg : omB ps = true
  case neg =>
    have hg' : omB ps = false := by simpa using hg
    have HE : Hid (aftO ps (omN ps) n 1 = (0, false)) := Lib.hid (aftO_not (by simp [askO, hg']))
    rw [hg'] at HG
    rw [HE.out]
    clear hg hg' HE
    go_enter Try.func20, Try.ntmps20
    go_wp2_with fail
    refine (HG.out _).mono ?_
    rintro e w1 ⟨rfl, hb1⟩
    have HB1 := Lib.hid ((HB.out _).trans (hb1.mono (HB.out _).size))
    clear hb1
    go_wp2_with fail
    go_ret2
    exact ⟨rfl, HB1.out⟩
  case pos =>
    rw [hg] at HG
    by_cases hn : numB n = true
    case neg =>
      have hn' : numB n = false := by simpa using hn
      have HE : Hid (aftO ps (omN ps) n 1 = (0, false)) := Lib.hid (aftO_not (by simp [askO, hn']))
      rw [hn'] at HN
      rw [HE.out]
      clear hg hn hn' HE
      go_enter Try.func20, Try.ntmps20
      go_wp2_with fail
      refine (HG.out _).mono ?_
      rintro e w1 ⟨rfl, hb1⟩
      have HB1 := Lib.hid ((HB.out _).trans (hb1.mono (HB.out _).size))
      clear hb1
      go_wp2_with fail
      refine (HN.out _).mono ?_
      rintro e w2 ⟨rfl, rfl⟩
      go_wp2_with fail
      go_ret2
      exact ⟨rfl, HB1.out⟩
    case pos =>
      have HE := Lib.hid (aftO_one (f := omN ps) hg hn)
      have HX := Lib.hid (fun W hm => omNext_any ps n (.agg #[u]) W hg hn hm)
      rw [hn] at HN
      rw [HE.out]
      clear hg hn HE
      generalize omN ps n = y at *
      have HO := Lib.hid (fun w => mpOneO_any y w)
      generalize (if numB y = true then y else 0) = y1 at *
      generalize numB y = b1 at *
      go_enter Try.func20, Try.ntmps20
      go_wp2_with fail
      refine (HG.out _).mono ?_
      rintro e w1 ⟨rfl, hb1⟩
      have hbo := (HBo.out 29).kept hb1
      have HB1 := Lib.hid ((HB.out _).trans (hb1.mono (HB.out _).size))
      obtain ⟨p0, p1⟩ := hbo
      clear hb1
      go_wp2_with fail
      refine (HN.out _).mono ?_
      rintro e w2 ⟨rfl, rfl⟩
      go_wp2_with fail
      refine (HX.out _ (HOI.out _ HB1.out)).mono ?_
      rintro e w2 ⟨rfl, hb2⟩
      have HB2 := Lib.hid (HB1.out.trans (hb2.mono HB1.out.size))
      clear hb2 p0 p1
      go_wp2_with fail
      refine (HO.out _).mono ?_
      rintro e w3 ⟨rfl, rfl⟩
      go_wp2_with fail
      go_ret2
      exact ⟨rfl, HB2.out⟩

set_option maxHeartbeats 1000000 in
theorem sOtherAfter (ps : List Pt) (n k : Int) (v : Value) (w : World) (hl : ps.length ≤ 1048576) (h : OthIn w v ps) :
    Calls Try.prog 22 #[v, .int .i64 n, .int .i64 k] w fun e w' => e = .returned (.tuple #[.int .i64 (aftO ps (omN ps) n k).1, .bool (aftO ps (omN ps) n k).2]) ∧ Below w.heap.size w w' := by
  obtain ⟨u, rfl, hpi⟩ := h
  have HOI := Lib.hid (fun W (hb : Below w.heap.size w W) => (show OthIn w (.agg #[u]) ps from ⟨u, rfl, hpi⟩).kept hb)
  have HA := Lib.hid (fun X => omAsked_any ps n k (.agg #[u]) (w.alloc X) hl (HOI.out _ (below_new w X)))
  have HB := Lib.hid (fun X => below_new w X)
  have HBo := Lib.hid (fun T => Bo.new w u T)
  clear hpi hl
  by_cases ha : askO ps n k = true
  case neg =>
    have ha' : askO ps n k = false := by simpa using ha
    have HE := Lib.hid (aftO_not (f := omN ps) ha')
    rw [ha'] at HA
    rw [HE.out]
    clear ha ha' HE
    go_enter Try.func22, Try.ntmps22
    go_wp2_with fail
    refine (HA.out _).mono ?_
    rintro e w1 ⟨rfl, hb1⟩
    have HB1 := Lib.hid ((HB.out _).trans (hb1.mono (HB.out _).size))
    clear hb1
    go_wp2_with fail
    go_ret2
    exact ⟨rfl, HB1.out⟩
  case pos =>
    have HE := Lib.hid (aftO_yes (f := omN ps) ha)
    rw [ha] at HA
    obtain ⟨hg, hn, hk0, hk1⟩ := askO_iff.1 ha
    obtain ⟨K, rfl⟩ : ∃ K : Nat, k = (K : Int) := ⟨k.toNat, by omega⟩
    have hK : K ≤ 400 := by omega
    rw [show ((K : Int)).toNat = K by omega] at HE
    have HP := Lib.hid (fun W hm => omPath_any ps n K (.agg #[u]) W hg hn hK hm)
    clear ha hg hn
    by_cases hall : allB (omN ps) n (K + 1) = true
    · rw [if_pos hall] at HE
      have HPY := Lib.hid (fun W hm => (HP.out W hm).mono fun e w' h => h.yes (by rw [pathOr, if_pos hall]) hall)
      rw [HE.out]
      clear HP HE hall
      go_enter Try.func22, Try.ntmps22
      go_wp2_with fail
      refine (HA.out _).mono ?_
      rintro e w1 ⟨rfl, hb1⟩
      have hbo := (HBo.out 29).kept hb1
      have HB1 := Lib.hid ((HB.out _).trans (hb1.mono (HB.out _).size))
      obtain ⟨p0, p1⟩ := hbo
      clear hb1
      go_wp2_with fail
      refine (HPY.out _ (HOI.out _ HB1.out)).mono ?_
      rintro e w2 ⟨g, cap, rfl, hpa, hb2⟩
      have q := hpa.cell (j := K) (Nat.le_refl _)
      have HB2 := Lib.hid (HB1.out.trans (hb2.mono HB1.out.size))
      have hKK : (K : Int) < ((K + 1 : Nat) : Int) := by omega
      obtain ⟨y, hy⟩ : ∃ y, itr (omN ps) K n = y := ⟨_, rfl⟩
      rw [hy] at q
      have HY := Lib.hid hy
      clear hb2 p0 p1 hpa hy
      go_wp2_with fail
      go_ret2
      rw [HY.out]
      exact ⟨rfl, HB2.out⟩
    · have hall' : allB (omN ps) n (K + 1) = false := by simpa using hall
      rw [if_neg hall] at HE
      have HPN := Lib.hid (fun W hm => (HP.out W hm).mono fun e w' h => h.no (by rw [pathOr, hall']; rfl) hall')
      rw [HE.out]
      clear HP HE hall hall'
      go_enter Try.func22, Try.ntmps22
      go_wp2_with fail
      refine (HA.out _).mono ?_
      rintro e w1 ⟨rfl, hb1⟩
      have hbo := (HBo.out 29).kept hb1
      have HB1 := Lib.hid ((HB.out _).trans (hb1.mono (HB.out _).size))
      obtain ⟨p0, p1⟩ := hbo
      clear hb1
      go_wp2_with fail
      refine (HPN.out _ (HOI.out _ HB1.out)).mono ?_
      rintro e w2 ⟨rfl, hb2⟩
      have HB2 := Lib.hid (HB1.out.trans (hb2.mono HB1.out.size))
      clear hb2 p0 p1
      go_wp2_with fail
      go_ret2
      exact ⟨rfl, HB2.out⟩

/-- The path handed back. -/
def pthO (ps : List Pt) (n k : Int) : Bool := decide (k ≤ 200) && (aftO ps (omN ps) n k).2
def pthL (ps : List Pt) (n k : Int) : List Int := if pthO ps n k = true then pathL (omN ps) n k.toNat else []
theorem pthL_len (ps : List Pt) (n k : Int) : (pthL ps n k).length ≤ 1048576 := by
  unfold pthL
  split
  · rename_i h
    rw [pthO, Bool.and_eq_true, decide_eq_true_eq] at h
    rw [pathL_length]
    omega
  · simp
theorem RetPath.row {xs ys : List Int} {ok ok' : Bool} {w w' : World} {e : Ending} (h : RetPath xs ok w e w') (hx : xs = ys) (ho : ok = ok') : RetRow ys ok' w e w' := by
  subst hx ho
  obtain ⟨v, rfl, h1, h2, _⟩ := h
  exact ⟨v, rfl, h1.rowAt, h2⟩

set_option maxHeartbeats 1000000 in
theorem sOtherPath (ps : List Pt) (n k : Int) (v : Value) (w : World) (hl : ps.length ≤ 1048576) (h : OthIn w v ps) :
    Calls Try.prog 24 #[v, .int .i64 n, .int .i64 k] w (RetRow (pthL ps n k) (pthO ps n k) w) := by
  obtain ⟨u, rfl, hpi⟩ := h
  have HOI := Lib.hid (fun W (hb : Below w.heap.size w W) => (show OthIn w (.agg #[u]) ps from ⟨u, rfl, hpi⟩).kept hb)
  have HA := Lib.hid (fun X => omAsked_any ps n k (.agg #[u]) (w.alloc X) hl (HOI.out _ (below_new w X)))
  have HB := Lib.hid (fun X => below_new w X)
  have HBo := Lib.hid (fun T => Bo.new w u T)
  clear hpi hl
  by_cases ha : askO ps n k = true
  case neg =>
    have ha' : askO ps n k = false := by simpa using ha
    have HE := Lib.hid (aftO_not (f := omN ps) ha')
    have HO : Hid (pthO ps n k = false) := Lib.hid (by rw [pthO, HE.out]; simp)
    have HL : Hid (pthL ps n k = []) := Lib.hid (by rw [pthL, HO.out]; rfl)
    rw [ha'] at HA
    rw [HO.out, HL.out]
    clear ha ha' HE
    go_enter Try.func24, Try.ntmps24
    go_wp2_with fail
    refine (HA.out _).mono ?_
    rintro e w1 ⟨rfl, hb1⟩
    have HB1 := Lib.hid ((HB.out _).trans (hb1.mono (HB.out _).size))
    clear hb1
    go_wp2_with fail
    go_ret2
    exact ⟨_, rfl, rowAt_nil _ _, HB1.out⟩
  case pos =>
    by_cases h200 : k ≤ 200
    case neg =>
      have HO : Hid (pthO ps n k = false) := Lib.hid (by rw [pthO]; simp; omega)
      have HL : Hid (pthL ps n k = []) := Lib.hid (by rw [pthL, HO.out]; rfl)
      have h201 : 200 < k := by omega
      rw [ha] at HA
      rw [HO.out, HL.out]
      clear ha h200
      go_enter Try.func24, Try.ntmps24
      go_wp2_with fail
      refine (HA.out _).mono ?_
      rintro e w1 ⟨rfl, hb1⟩
      have HB1 := Lib.hid ((HB.out _).trans (hb1.mono (HB.out _).size))
      clear hb1
      go_wp2_with fail
      go_ret2
      exact ⟨_, rfl, rowAt_nil _ _, HB1.out⟩
    case pos =>
      have hae := aftO_yes (f := omN ps) ha
      rw [ha] at HA
      obtain ⟨hg, hn, hk0, hk1⟩ := askO_iff.1 ha
      obtain ⟨K, rfl⟩ : ∃ K : Nat, k = (K : Int) := ⟨k.toNat, by omega⟩
      have hK : K ≤ 400 := by omega
      rw [show ((K : Int)).toNat = K by omega] at hae
      have ho : allB (omN ps) n (K + 1) = pthO ps n (K : Int) := by
        rw [pthO, hae, show decide ((K : Int) ≤ 200) = true by simpa using h200, Bool.true_and]
        cases allB (omN ps) n (K + 1) <;> rfl
      have hx : pathOr (omN ps) n K = pthL ps n (K : Int) := by
        rw [pthL, pathOr, ← ho, show ((K : Int)).toNat = K by omega]
      have HP := Lib.hid (fun W hm => (omPath_any ps n K (.agg #[u]) W hg hn hK hm).mono fun e w' h => h.row hx ho)
      have h201 : ¬ ((200 : Int) < (K : Int)) := by omega
      clear ha hg hn hae ho hx
      generalize pthL ps n (K : Int) = xs at *
      generalize pthO ps n (K : Int) = ok at *
      go_enter Try.func24, Try.ntmps24
      go_wp2_with fail
      refine (HA.out _).mono ?_
      rintro e w1 ⟨rfl, hb1⟩
      have hbo := (HBo.out 29).kept hb1
      have HB1 := Lib.hid ((HB.out _).trans (hb1.mono (HB.out _).size))
      obtain ⟨p0, p1⟩ := hbo
      clear hb1
      go_wp2_with fail
      refine (HP.out _ (HOI.out _ HB1.out)).mono ?_
      rintro e w2 ⟨v2, rfl, hr2, hb2⟩
      have HR2 := Lib.hid (hr2.low HB1.out.size)
      have HB2 := Lib.hid (HB1.out.trans (hb2.mono HB1.out.size))
      clear hb2 p0 p1 hr2
      go_wp2_with fail
      go_ret2
      exact ⟨_, rfl, HR2.out, HB2.out⟩
end Go.Proofs.Ytbhmplccjaijjaa
