/-
  'UndoOther' of both.
-/
import Derived.Test.YtbhmplccjaijjaaOneS
import Derived.Test.YtbhmplccjaijjaaOneI
import Derived.Test.YtbhmplccjaijjaaOtI
import Derived.Test.YtbhmplccjaijjaaOsN
import Derived.Test.YtbhmplccjaijjaaPrO
import Derived.Test.YtbhmplccjaijjaaAlgO
import Derived.Test.YtbhmplccjaijjaaIterP
namespace Go.Proofs.Ytbhmplccjaijjaa
open Go.RowKit
set_option linter.unusedVariables false

/-- What UndoOther tells. -/
def unO (ps : List Pt) (n k : Int) : Int × Bool := if omB ps = true ∧ oneB ps = true then aftO ps (prv ps) n k else (0, false)
theorem srt_one (x : Int) : srtI [x] = [x] := srt_eq (by simp) (List.Perm.refl _)

set_option maxHeartbeats 4000000 in
theorem iUndoOther (ps : List Pt) (n k : Int) (v : Value) (w : World) (hl : ps.length ≤ 1048576) (h : OthIn w v ps) :
    Calls Try.prog 40 #[v, .int .i64 n, .int .i64 k] w fun e w' => e = .returned (.tuple #[.int .i64 (unO ps n k).1, .bool (unO ps n k).2]) ∧ Below w.heap.size w w' := by
  obtain ⟨u, rfl, a, c, rfl, hp⟩ := h
  have HROW : Hid (∀ W, Below w.heap.size w W → PRow W 0 W.heap.size a ps) := Lib.hid (fun W hb => (hp.of (fun g _ hg => hb.block g hg)).wide (Nat.le_refl _) hb.size)
  have HM : Hid (∀ W, Below w.heap.size w W → OthIn W (.agg #[.slice a ps.length c]) ps) := Lib.hid (fun W hb => ⟨_, rfl, a, c, rfl, HROW.out W hb⟩)
  have B := Lib.hid (Bo.new w (.slice a ps.length c) 29)
  have HB := Lib.hid (below_new w (.cells #[.slice a ps.length c] 29))
  have HG := Lib.hid (fun W hb => isOther_any ps _ W hl (HM.out W hb))
  clear hp
  rcases hg : omB ps with _ | _
  · have HE : Hid (unO ps n k = (0, false)) := Lib.hid (by rw [unO, if_neg (by simp [hg])])
    rw [hg] at HG
    rw [HE.out]
    clear hg hl HROW HM
    generalize ps.length = K at *
    go_enter Try.func40, Try.ntmps40
    go_wp2_with fail
    refine (HG.out _ HB.out).mono ?_
    rintro e w1 ⟨rfl, hb1⟩
    replace HB := Lib.hid (HB.out.trans (hb1.mono HB.out.size))
    clear hb1
    go_wp2_with fail
    go_ret2
    exact ⟨rfl, HB.out⟩
  · rw [hg] at HG
    have HO := Lib.hid (fun W hb => isOneToOne_any ps _ W hg (HM.out W hb))
    rcases h1 : oneB ps with _ | _
    · have HE : Hid (unO ps n k = (0, false)) := Lib.hid (by rw [unO, if_neg (by simp [h1])])
      rw [h1] at HO
      rw [HE.out]
      clear hg h1 hl HROW HM
      generalize ps.length = K at *
      go_enter Try.func40, Try.ntmps40
      go_wp2_with fail
      refine (HG.out _ HB.out).mono ?_
      rintro e w1 ⟨rfl, hb1⟩
      replace B := Lib.hid (B.out.kept hb1)
      replace HB := Lib.hid (HB.out.trans (hb1.mono HB.out.size))
      clear hb1
      obtain ⟨p0, p1⟩ := B.out
      go_wp2_with fail
      refine (HO.out _ HB.out).mono ?_
      rintro e w2 ⟨rfl, hb2⟩
      replace HB := Lib.hid (HB.out.trans (hb2.mono HB.out.size))
      clear hb2
      go_wp2_with fail
      go_ret2
      exact ⟨rfl, HB.out⟩
    · have HE : Hid (unO ps n k = aftO ps (prv ps) n k) := Lib.hid (by rw [unO, if_pos ⟨hg, h1⟩])
      have HA := Lib.hid (fun W hb => afterO_any ps (prv ps) n k 76 a c W (HROW.out W hb) (fun bo bn bs => iter_prev bo bn bs _ ps a c n hl h1))
      rw [h1] at HO
      rw [HE.out]
      clear hg h1 hl HROW HM
      generalize aftO ps (prv ps) n k = r at *
      generalize ps.length = K at *
      obtain ⟨r1, r2⟩ := r
      go_enter Try.func40, Try.ntmps40
      go_wp2_with fail
      refine (HG.out _ HB.out).mono ?_
      rintro e w1 ⟨rfl, hb1⟩
      replace B := Lib.hid (B.out.kept hb1)
      replace HB := Lib.hid (HB.out.trans (hb1.mono HB.out.size))
      clear hb1
      obtain ⟨p0, p1⟩ := B.out
      go_wp2_with fail
      refine (HO.out _ HB.out).mono ?_
      rintro e w2 ⟨rfl, hb2⟩
      replace B := Lib.hid (B.out.kept hb2)
      replace HB := Lib.hid (HB.out.trans (hb2.mono HB.out.size))
      clear hb2 p0 p1
      obtain ⟨p0, p1⟩ := B.out
      go_wp2_with fail
      refine (HA.out _ HB.out).mono ?_
      rintro e w3 ⟨rfl, hb3⟩
      replace HB := Lib.hid (HB.out.trans (hb3.mono HB.out.size))
      clear hb3 p0 p1
      go_wp2_with fail
      go_ret2
      exact ⟨rfl, HB.out⟩

set_option maxRecDepth 100000 in
set_option maxHeartbeats 4000000 in
theorem sUndoOther (ps : List Pt) (n k : Int) (v : Value) (w : World) (hl : ps.length ≤ 1048576) (h : OthIn w v ps) :
    Calls Try.prog 39 #[v, .int .i64 n, .int .i64 k] w fun e w' => e = .returned (.tuple #[.int .i64 (unO ps n k).1, .bool (unO ps n k).2]) ∧ Below w.heap.size w w' := by
  obtain ⟨u, rfl, hpi⟩ := h
  have HM : Hid (∀ W, Below w.heap.size w W → OthIn W (.agg #[u]) ps) := Lib.hid (fun W hb => OthIn.kept ⟨u, rfl, hpi⟩ hb)
  have B := Lib.hid (Bo.new w u 29)
  have HB := Lib.hid (below_new w (.cells #[u] 29))
  have HA := Lib.hid (fun W hb => omAsked_any ps n k (.agg #[u]) W hl (HM.out W hb))
  clear hpi hl
  by_cases ha : askO ps n k = true
  case neg =>
    have ha' : askO ps n k = false := by simpa using ha
    have HE : Hid (unO ps n k = (0, false)) := Lib.hid (by
      unfold unO
      split
      · exact aftO_not ha'
      · rfl)
    rw [ha'] at HA
    rw [HE.out]
    clear ha ha'
    go_enter Try.func39, Try.ntmps39
    go_wp2_with fail
    refine (HA.out _ HB.out).mono ?_
    rintro e w1 ⟨rfl, hb1⟩
    replace HB := Lib.hid (HB.out.trans (hb1.mono HB.out.size))
    clear hb1
    go_wp2_with fail
    go_ret2
    exact ⟨rfl, HB.out⟩
  case pos =>
    have HAY := Lib.hid (aftO_yes (f := prv ps) ha)
    rw [ha] at HA
    obtain ⟨hg, hn, hk0, hk1⟩ := askO_iff.1 ha
    have HO := Lib.hid (fun W hb => omOne_any ps (.agg #[u]) W hg (HM.out W hb))
    rcases h1 : oneB ps with _ | _
    · have HE : Hid (unO ps n k = (0, false)) := Lib.hid (by rw [unO, if_neg (by simp [h1])])
      rw [h1] at HO
      rw [HE.out]
      clear ha hg hn h1
      go_enter Try.func39, Try.ntmps39
      go_wp2_with fail
      refine (HA.out _ HB.out).mono ?_
      rintro e w1 ⟨rfl, hb1⟩
      replace B := Lib.hid (B.out.kept hb1)
      replace HB := Lib.hid (HB.out.trans (hb1.mono HB.out.size))
      clear hb1
      obtain ⟨p0, p1⟩ := B.out
      go_wp2_with fail
      refine (HO.out _ HB.out).mono ?_
      rintro e w2 ⟨rfl, hb2⟩
      replace HB := Lib.hid (HB.out.trans (hb2.mono HB.out.size))
      clear hb2
      go_wp2_with fail
      go_ret2
      exact ⟨rfl, HB.out⟩
    · have HE : Hid (unO ps n k = aftO ps (prv ps) n k) := Lib.hid (by rw [unO, if_pos ⟨hg, h1⟩])
      have HBF := Lib.hid (fun x W (hx : numB x = true) hb => (by have := omBefore_any ps x (.agg #[u]) W hg hx (HM.out W hb); rw [prv_list hg h1 x, srt_one] at this; exact this))
      obtain ⟨K, rfl⟩ : ∃ K : Nat, k = (K : Int) := ⟨k.toNat, by omega⟩
      have hK : K ≤ 400 := by omega
      rw [show ((K : Int)).toNat = K by omega] at HAY
      have HN := Lib.hid hn
      rw [h1] at HO
      rw [HE.out]
      clear ha hg h1 hn HE
      go_enter Try.func39, Try.ntmps39
      go_wp2_with fail
      refine (HA.out _ HB.out).mono ?_
      rintro e w1 ⟨rfl, hb1⟩
      replace B := Lib.hid (B.out.kept hb1)
      replace HB := Lib.hid (HB.out.trans (hb1.mono HB.out.size))
      clear hb1
      obtain ⟨p0, p1⟩ := B.out
      go_wp2_with fail
      refine (HO.out _ HB.out).mono ?_
      rintro e w2 ⟨rfl, hb2⟩
      replace B := Lib.hid (B.out.kept hb2)
      replace HB := Lib.hid (HB.out.trans (hb2.mono HB.out.size))
      clear hb2 p0 p1
      go_wp2_with fail
      have H0 : Hid (allB (prv ps) n 1 = true) := Lib.hid (by simp [allB, itr, HN.out])
      go_loopw [1, 2] (fun a s wr => ∃ (j r : Nat), a = .int .i64 (itr (prv ps) j n) ∧ s = .int .i64 r ∧ j + r = K ∧ allB (prv ps) n (j + 1) = true ∧ Bo wr w.heap.size u ∧ Below w.heap.size w wr) (fun _ s _ => (RowKit.intOf s).toNat)
      case atStart => exact ⟨0, K, rfl, rfl, by omega, H0.out, B.out, HB.out⟩
      case round =>
        clear B HB H0
        obtain ⟨j, r, rfl, rfl, hjr, hall, hbo, hbr⟩ := hrel
        have hv : numB (itr (prv ps) j n) = true := allB_at (Nat.lt_succ_self j) hall
        have HSU := Lib.hid (itr_succ (prv ps) j n)
        have HALL := Lib.hid hall
        have HJR := Lib.hid hjr
        have HBR := Lib.hid hbr
        have HBO := Lib.hid hbo
        obtain ⟨v, hvv⟩ : ∃ v, itr (prv ps) j n = v := ⟨_, rfl⟩
        rw [hvv] at hv HSU ⊢
        have HV := Lib.hid hvv
        have HNV := Lib.hid hv
        obtain ⟨c0, hz⟩ := hbo
        have hr2 : r ≤ 400 := by omega
        clear hvv hv hall hjr hbr
        by_cases hr : 0 < r
        · have HCN := Lib.hid (HBF.out v wr HNV.out HBR.out)
          obtain ⟨y, hy⟩ : ∃ y, prv ps v = y := ⟨_, rfl⟩
          rw [hy] at HCN HSU
          have hri : (0 : Int) < (r : Int) := by omega
          clear hy
          go_wp2_with fail
          refine HCN.out.mono ?_
          rintro e w3 ⟨v3, rfl, hi3, hb3⟩
          have HBO3 := Lib.hid (HBO.out.kept hb3)
          have HBR3 := Lib.hid (HBR.out.trans (hb3.mono HBR.out.size))
          obtain ⟨g, cap, rfl, _, _⟩ := World.ownsRow.form hi3 (by simp)
          have q : w3.cell? ⟨g, 0, none⟩ = some (.int .i64 y) := by rw [World.ownsRow.cellAt hi3 0 (by simp)]; rfl
          clear hi3 hb3 c0
          go_wp2_with fail
          refine (mpIs_any _ _).mono ?_
          rintro e w4 ⟨rfl, rfl⟩
          by_cases hnx : numB y = true
          · rw [hnx]
            have HA2 : Hid (allB (prv ps) n (j + 1 + 1) = true) := Lib.hid (by rw [allB_succ, HALL.out, HSU.out, hnx]; rfl)
            clear hnx
            go_wp2_with fail
            exact ⟨⟨j + 1, r - 1, by rw [HSU.out], by congr 1; omega, by have := HJR.out; omega, HA2.out, HBO3.out, HBR3.out⟩, by simp [RowKit.intOf]; omega⟩
          · have hnx' : numB y = false := by simpa using hnx
            rw [hnx']
            have HZ : Hid (aftO ps (prv ps) n (K : Int) = (0, false)) := Lib.hid (by
              rw [HAY.out, if_neg]
              intro hc
              have := allB_at (j := j + 1) (k := K + 1) (by have := HJR.out; omega) hc
              rw [HSU.out, hnx'] at this
              cases this)
            clear hnx hnx'
            go_wp2_with fail
            go_ret2
            rw [HZ.out]
            exact ⟨rfl, HBR3.out⟩
        · obtain rfl : r = 0 := by omega
          have HZ : Hid (aftO ps (prv ps) n (K : Int) = (v, true)) := Lib.hid (by
            have hjk : j = K := by have := HJR.out; omega
            have h9 := HALL.out
            rw [hjk] at h9
            rw [HAY.out, if_pos h9, ← hjk, HV.out])
          clear c0
          go_wp2_with fail
          go_ret2
          rw [HZ.out]
          exact ⟨rfl, HBR.out⟩
end Go.Proofs.Ytbhmplccjaijjaa
