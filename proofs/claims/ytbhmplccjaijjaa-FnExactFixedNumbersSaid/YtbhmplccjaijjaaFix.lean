/-
  'FixedNumbers' of the model and of the program.
-/
import Derived.Test.YtbhmplccjaijjaaOs
import Derived.Test.YtbhmplccjaijjaaNxO
import Derived.Test.YtbhmplccjaijjaaOtI
import Derived.Test.YtbhmplccjaijjaaRowAt
import Derived.Test.YtbhmplccjaijjaaSv
namespace Go.Proofs.Ytbhmplccjaijjaa
open Go.RowKit
set_option linter.unusedVariables false

/-- Is a number itself behind a step? -/
def fxB (ps : List Pt) (n : Int) : Bool := omN ps n == n
def fxL (ps : List Pt) : List Int := if omB ps = true then (upL (-400) 801).filter (fxB ps) else []
theorem fxL_len (ps : List Pt) : (fxL ps).length ≤ 1048576 := by
  unfold fxL
  split
  · exact Nat.le_trans (List.length_filter_le _ _) (by rw [upL_length]; omega)
  · simp
theorem num_400 {n : Int} (h0 : -400 ≤ n) (h1 : n ≤ 400) : numB n = true := numB_iff.2 ⟨by omega, by omega⟩
theorem fx_snoc_yes {ps : List Pt} {j : Nat} (h : fxB ps (-400 + (j : Int)) = true) : (upL (-400) (j + 1)).filter (fxB ps) = (upL (-400) j).filter (fxB ps) ++ [-400 + (j : Int)] := by
  rw [upL_succ, List.filter_append]
  simp only [List.filter_cons, h, if_true, List.filter_nil]
theorem fx_snoc_no {ps : List Pt} {j : Nat} (h : fxB ps (-400 + (j : Int)) = false) : (upL (-400) (j + 1)).filter (fxB ps) = (upL (-400) j).filter (fxB ps) := by
  rw [upL_succ, List.filter_append]
  simp only [List.filter_cons, h, Bool.false_eq_true, if_false, List.filter_nil, List.append_nil]

set_option maxRecDepth 100000 in
set_option maxHeartbeats 4000000 in
theorem sFixedNumbers (ps : List Pt) (v : Value) (w : World) (hl : ps.length ≤ 1048576) (h : OthIn w v ps) :
    Calls Try.prog 49 #[v] w (RetRow (fxL ps) (omB ps) w) := by
  obtain ⟨u, rfl, hpi⟩ := h
  have HOI := Lib.hid (fun W (hb : Below w.heap.size w W) => (show OthIn w (.agg #[u]) ps from ⟨u, rfl, hpi⟩).kept hb)
  have HG := Lib.hid (fun X => omGood_any ps (.agg #[u]) (w.alloc X) hl (HOI.out _ (below_new w X)))
  have HB := Lib.hid (fun X => below_new w X)
  have HBo := Lib.hid (fun T => Bo.new w u T)
  clear hpi hl
  by_cases hg : omB ps = true
  case neg =>
    have hg' : omB ps = false := by simpa using hg
    have HL : Hid (fxL ps = []) := Lib.hid (by rw [fxL, hg']; rfl)
    rw [hg'] at HG
    rw [hg', HL.out]
    clear hg hg'
    go_enter Try.func49, Try.ntmps49
    go_wp2_with fail
    refine (HG.out _).mono ?_
    rintro e w1 ⟨rfl, hb1⟩
    have HB1 := Lib.hid ((HB.out _).trans (hb1.mono (HB.out _).size))
    clear hb1
    go_wp2_with fail
    go_ret2
    exact ⟨_, rfl, rowAt_nil _ _, HB1.out⟩
  case pos =>
    have HL : Hid (fxL ps = (upL (-400) 801).filter (fxB ps)) := Lib.hid (by rw [fxL, if_pos hg])
    have HX := Lib.hid (fun n W hn hm => omNext_any ps n (.agg #[u]) W hg hn hm)
    have HYES := Lib.hid (fun j => fx_snoc_yes (ps := ps) (j := j))
    have HNO := Lib.hid (fun j => fx_snoc_no (ps := ps) (j := j))
    have HFB : Hid (∀ n, fxB ps n = (omN ps n == n)) := Lib.hid (fun n => rfl)
    have HLEN : Hid (∀ j, ((upL (-400) j).filter (fxB ps)).length ≤ j) := Lib.hid (fun j => Nat.le_trans (List.length_filter_le _ _) (by rw [upL_length]; exact Nat.le_refl _))
    rw [hg] at HG
    rw [hg, HL.out]
    clear hg
    obtain ⟨i0, hi, hi0, hi1, hi2⟩ := info_parts info3
    have HZ : Hid (∀ W, IntsAt W (w.heap.size + 1) (.slice none 0 0) ((upL (-400) 0).filter (fxB ps))) := Lib.hid (fun W => intsAt_nil _ _)
    go_enter Try.func49, Try.ntmps49
    go_wp2_with fail
    refine (HG.out _).mono ?_
    rintro e w1 ⟨rfl, hb1⟩
    have HBO1 := Lib.hid ((HBo.out 29).kept hb1)
    have HB1 := Lib.hid ((HB.out (.cells #[u] 29)).trans (hb1.mono (HB.out _).size))
    clear hb1
    go_wp2_with fail
    go_loopw [4, 5] (fun out x wr => ∃ j : Nat, j ≤ 801 ∧ x = .int .i64 (-400 + (j : Int)) ∧ IntsAt wr (w.heap.size + 1) out ((upL (-400) j).filter (fxB ps)) ∧ Bo wr w.heap.size u ∧ Below w.heap.size w wr) (fun _ x _ => (401 - RowKit.intOf x).toNat)
    case atStart => exact ⟨0, by omega, rfl, HZ.out _, HBO1.out, HB1.out⟩
    case round =>
      clear HBO1 HB1 HZ
      obtain ⟨j, hj, rfl, hrow, hbo, hbel⟩ := hrel
      have HO := Lib.hid hrow
      have HBR := Lib.hid hbel
      have HBO := Lib.hid hbo
      obtain ⟨p0, p1⟩ := hbo
      have hsz := hbel.size
      clear hrow hbel
      obtain ⟨x, hx⟩ : ∃ x : Int, -400 + (j : Int) = x := ⟨_, rfl⟩
      by_cases hlt : j < 801
      · have hx1 : -400 ≤ x := by omega
        have hx2 : x ≤ 400 := by omega
        have HYJ := Lib.hid (HYES.out j)
        have HNJ := Lib.hid (HNO.out j)
        rw [hx] at HYJ HNJ ⊢
        have HC := Lib.hid (HX.out x wr (num_400 hx1 hx2) (HOI.out _ HBR.out))
        have HF := Lib.hid (HFB.out x)
        have HXN : Hid (-400 + ((j + 1 : Nat) : Int) = x + 1) := Lib.hid (by omega)
        clear hx
        obtain ⟨y, hy⟩ : ∃ y, omN ps x = y := ⟨_, rfl⟩
        rw [hy] at HC HF
        clear hy
        obtain ⟨l, hl⟩ : ∃ l, l = (upL (-400) j).filter (fxB ps) := ⟨_, rfl⟩
        have hlen : l.length ≤ 801 := by rw [hl]; exact Nat.le_trans (HLEN.out j) hj
        rw [← hl] at HO HYJ HNJ
        clear hl
        by_cases he : y = x
        · have HY2 := Lib.hid (HYJ.out (by rw [HF.out]; simp [he]))
          subst he
          clear HYJ HNJ
          go_wp2_with fail
          refine HC.out.mono ?_
          rintro e w2 ⟨rfl, hb2⟩
          have HBO2 := Lib.hid (HBO.out.kept hb2)
          have HBR2 := Lib.hid (HBR.out.trans (hb2.mono HBR.out.size))
          have HO2 := Lib.hid (show IntsAt w2 (w.heap.size + 1) u4 l from ownsRow_kept HO.out hb2)
          have hsz2 := HBR2.out.size
          have hsz3 : w.heap.size + 1 ≤ w2.heap.size := HBO2.out.2
          have hj2 : l.length + 1 ≤ maxLen := by unfold maxLen; omega
          clear hb2 p0 p1
          go_wp2_with (at_builtin; refine wpList_append_own _ rfl _ _ 38 rfl (w.heap.size + 1) 3 i0 (.int .i64 0) 1 8 Try.underlying38 hi hi0 hi1 hi2 rfl (by decide) _ _ _ rfl (HO2.out.alloc _) ⟨w2.heap.size, 0, none⟩ 1 1 [.int .i64 y] rfl rfl ?_ ?_ ?_ ?_ ?_ ?_; rotate_right; intro v' w3 hown hgrow _)
          · have hbg : Below (w.heap.size + 1) w2 w3 := ((Below.refl (w.heap.size + 1) w2).alloc hsz3 _).grown hgrow (by simp; omega) (fun k e => (HO2.out.lt k e).1)
            have hne : some w.heap.size ≠ u4.ownBlock := fun e => by have := (HO2.out.lt _ e.symm).1; omega
            refine ⟨⟨j + 1, hlt, by rw [HXN.out], ?_, HBO2.out.of hbg.size ((hgrow.block _ (by simp; have := HBO2.out.2; omega) hne).trans (Below.heap_alloc _ _ _ HBO2.out.2)), HBR2.out.trans (hbg.mono (by omega))⟩, by simp [RowKit.intOf]; omega⟩
            unfold IntsAt
            rw [HY2.out, List.map_append, List.length_append]
            exact hown
          · exact fun j u hu => new_cell _ _ _ hu
          · simp [Value.oneCell']
          · exact hj2
          · omega
          · simp; omega
        · have HN2 := Lib.hid (HNJ.out (by rw [HF.out]; simp [he]))
          clear HYJ HNJ
          go_wp2_with fail
          refine HC.out.mono ?_
          rintro e w2 ⟨rfl, hb2⟩
          have HBO2 := Lib.hid (HBO.out.kept hb2)
          have HBR2 := Lib.hid (HBR.out.trans (hb2.mono HBR.out.size))
          have HO2 := Lib.hid (show IntsAt w2 (w.heap.size + 1) u4 l from ownsRow_kept HO.out hb2)
          clear hb2 p0 p1
          go_wp2_with fail
          exact ⟨⟨j + 1, hlt, by rw [HXN.out], by rw [HN2.out]; exact HO2.out, HBO2.out, HBR2.out⟩, by simp [RowKit.intOf]; omega⟩
      · have HJ : Hid (j = 801) := Lib.hid (by omega)
        have hx2 : ¬ (x ≤ 400) := by omega
        rw [hx]
        clear hx hlt hj p0 p1
        go_wp2_with fail
        go_ret2
        have h := HO.out
        rw [HJ.out] at h
        exact ⟨_, rfl, h.rowAt.low (by omega), HBR.out⟩

theorem fixed1_any (ps : List Pt) (n : Int) (bo : Nat) (u : Value) (w : World) (hg : omB ps = true) (hn : numB n = true) (hb : w.cell? ⟨bo, 0, none⟩ = some u) (hm : OthIn w (.agg #[u]) ps) :
    Calls Try.prog 85 #[.int .i64 n, .pointer (some ⟨bo, 0, none⟩)] w fun e w' => e = .returned (.bool (fxB ps n)) ∧ Below w.heap.size w w' := by
  have HC := Lib.hid (next_any ps n (.agg #[u]) w hg hn hm)
  have HF : Hid (fxB ps n = (omN ps n == n)) := Lib.hid rfl
  generalize omN ps n = y at HC HF
  clear hm hg hn
  go_enter Try.func85, Try.ntmps85
  go_wp2_with fail
  refine HC.out.mono ?_
  rintro e w2 ⟨rfl, hb2⟩
  have HB := Lib.hid hb2
  clear hb2
  go_wp2_with fail
  go_ret
  exact ⟨ret_bool HF.out.symm, HB.out⟩

set_option maxRecDepth 100000 in
set_option maxHeartbeats 4000000 in
theorem iFixedNumbers (ps : List Pt) (v : Value) (w : World) (hl : ps.length ≤ 1048576) (h : OthIn w v ps) :
    Calls Try.prog 50 #[v] w (RetRow (fxL ps) (omB ps) w) := by
  obtain ⟨u, rfl, hpi⟩ := h
  have HOI := Lib.hid (fun W (hb : Below w.heap.size w W) => (show OthIn w (.agg #[u]) ps from ⟨u, rfl, hpi⟩).kept hb)
  have HG := Lib.hid (fun X => isOther_any ps (.agg #[u]) (w.alloc X) hl (HOI.out _ (below_new w X)))
  have HB := Lib.hid (fun X => below_new w X)
  have HBo := Lib.hid (fun T => Bo.new w u T)
  clear hpi hl
  by_cases hg : omB ps = true
  case neg =>
    have hg' : omB ps = false := by simpa using hg
    have HL : Hid (fxL ps = []) := Lib.hid (by rw [fxL, hg']; rfl)
    rw [hg'] at HG
    rw [hg', HL.out]
    clear hg hg'
    go_enter Try.func50, Try.ntmps50
    go_wp2_with fail
    refine (HG.out _).mono ?_
    rintro e w1 ⟨rfl, hb1⟩
    have HB1 := Lib.hid ((HB.out _).trans (hb1.mono (HB.out _).size))
    clear hb1
    go_wp2_with fail
    go_ret2
    exact ⟨_, rfl, rowAt_nil _ _, HB1.out⟩
  case pos =>
    have HL : Hid (fxL ps = (upL (-400) 801).filter (fxB ps)) := Lib.hid (by rw [fxL, if_pos hg])
    have HX := Lib.hid (fun n W hn hc hm => fixed1_any ps n w.heap.size u W hg hn hc hm)
    rw [hg] at HG
    rw [hg, HL.out]
    clear hg
    have hmf : ∀ (fn : Fn) (first cap : Array Value) (w : World), (Instr.makeFunc fn first cap).run Try.prog w = .ok (.func fn first cap) w := fun _ _ _ _ => rfl
    go_enter Try.func50, Try.ntmps50
    go_wp2_with fail
    refine (HG.out _).mono ?_
    rintro e w1 ⟨rfl, hb1⟩
    have HBO1 := Lib.hid ((HBo.out 29).kept hb1)
    have HB1 := Lib.hid ((HB.out (.cells #[u] 29)).trans (hb1.mono (HB.out _).size))
    clear hb1
    go_wp2_with fail
    refine (countUp_any (-400) 801 400 _ (by omega) (by omega) (by omega) (by omega)).mono ?_
    rintro e w2 ⟨v2, rfl, hr2, hb2⟩
    have HBO2 := Lib.hid (HBO1.out.kept hb2)
    have HB2 := Lib.hid (HB1.out.trans (hb2.mono HB1.out.size))
    have HS : Hid (Calls Try.prog 69 #[v2, .func (.func 85) #[] #[.pointer (some ⟨w.heap.size, 0, none⟩)]] w2 fun e w' => ∃ v', e = .returned v' ∧ IntsAt w' w2.heap.size v' ((upL (-400) 801).filter (fxB ps)) ∧ (Bo w' w.heap.size u ∧ Below w.heap.size w w') ∧ Touch 0 0 w2 w') := Lib.hid (by
      refine sieve_any 85 #[.pointer (some ⟨w.heap.size, 0, none⟩)] (upL (-400) 801) (fxB ps) (fun _ W => Bo W w.heap.size u ∧ Below w.heap.size w W) 0 0 v2 w2 w1.heap.size (enters_of Try.func85 (by kernel_rfl) rfl) (by rw [upL_length]; omega) hr2 (Nat.zero_le _) (Nat.zero_le _) (Nat.le_refl _) ?_ ⟨HBO2.out, HB2.out⟩ ?_
      · rintro j W W' ⟨h1, h2⟩ hs hb
        exact ⟨h1.of hb.size (hb.block _ (Nat.lt_of_lt_of_le HBO2.out.2 (Nat.le_refl _))), h2.trans (hb.mono HB2.out.size)⟩
      · rintro j W hj ⟨h1, h2⟩ hs
        rw [upL_length] at hj
        rw [upL_at _ hj]
        refine (HX.out _ W (num_400 (by omega) (by omega)) h1.1 (HOI.out _ h2)).mono ?_
        rintro e W' ⟨rfl, hb⟩
        exact ⟨rfl, ⟨h1.kept hb, h2.trans (hb.mono h2.size)⟩, Touch.of_below hb⟩)
    clear hr2 hb2
    go_wp2_with fail
    refine HS.out.mono ?_
    rintro e w3 ⟨v3, rfl, hr3, ⟨_, hb3⟩, _⟩
    have HR3 := Lib.hid hr3.rowAt
    have HB3 := Lib.hid hb3
    clear hr3 hb3
    go_wp2_with fail
    go_ret2
    exact ⟨_, rfl, HR3.out.low HB2.out.size, HB3.out⟩
end Go.Proofs.Ytbhmplccjaijjaa
