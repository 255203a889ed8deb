/-
  'omGood' of the model, 'IsOther' of the program.
-/
import Derived.Test.YtgobjobppajkbaaDoorOt
import Derived.Shelf.Abstract
import Derived.Deep.RegionWith
namespace Go.Proofs.YtgobjobppajkbaaDoor
open Go.RowKit
set_option linter.unusedVariables false

/-- Are the first K parts right for residues modulo m? -/
def okTo (ps : List Pt) (m : Nat) (K : Nat) : Bool := (List.range K).all fun r => ptOk (ps.getD r pt0) r m
theorem okTo_zero (ps : List Pt) (m : Nat) : okTo ps m 0 = true := rfl
theorem okTo_yes {ps : List Pt} {m j : Nat} (h : okTo ps m j = true) (hx : ptOk (ps.getD j pt0) j m = true) : okTo ps m (j + 1) = true := by
  unfold okTo at *
  rw [List.range_succ, List.all_append, h]
  simpa using hx
theorem okTo_no {ps : List Pt} {m j K : Nat} (hj : j < K) (hx : ptOk (ps.getD j pt0) j m = false) : okTo ps m K = false := by
  unfold okTo
  rw [List.all_eq_false]
  exact ⟨j, by simpa using hj, by simpa using hx⟩
theorem omB_len_no {ps : List Pt} (h : inB ps.length 1 8 = false) : omB ps = false := by
  rw [Bool.eq_false_iff]
  intro e
  have := omB_len e
  simp [inB] at h
  omega
theorem omB_okTo {ps : List Pt} (h : inB ps.length 1 8 = true) : omB ps = okTo ps ps.length ps.length := by
  unfold omB okTo
  have : decide (1 ≤ ps.length ∧ ps.length ≤ 8) = true := by simp [inB] at h ⊢; omega
  rw [this, Bool.true_and]

set_option maxRecDepth 100000 in
set_option maxHeartbeats 4000000 in
theorem omGood_any (ps : List Pt) (v : Value) (w : World) (hl : ps.length ≤ 1048576) (h : OthIn w v ps) :
    Calls Tryd.prog 89 #[v] w fun e w' => e = .returned (.bool (omB ps)) ∧ Below w.heap.size w w' := by
  obtain ⟨a, c, rfl, hx⟩ := h.rd
  clear h
  have HB := Lib.hid (fun X => (Below.refl w.heap.size w).alloc (Nat.le_refl _) X)
  obtain ⟨K, hK⟩ : ∃ K, ps.length = K := ⟨_, rfl⟩
  have HX := Lib.hid hx
  have hK2 : (K : Int) ≤ 1048576 := by omega
  cases hb : inB ps.length 1 8 with
  | false =>
    have HE := Lib.hid (omB_len_no hb)
    rw [hK] at hb ⊢
    clear hx hK HX hl
    go_enter Tryd.func89, Tryd.ntmps89
    go_wp2_with (go_at_call 72; refine (l1In_any _ _ _ _).mono ?_; rintro e w' ⟨rfl, rfl⟩)
    go_ret
    exact ⟨ret_bool HE.out.symm, HB.out _⟩
  | true =>
    have HE := Lib.hid (omB_okTo hb)
    rw [hK] at hb HE HX ⊢
    have hK8 : 1 ≤ K ∧ K ≤ 8 := by simp [inB] at hb; omega
    obtain ⟨hK1, hK3⟩ := hK8
    have HYES := Lib.hid (fun j => okTo_yes (ps := ps) (m := K) (j := j))
    have HNO := Lib.hid (fun j => okTo_no (ps := ps) (m := K) (j := j) (K := K))
    clear hx hK hl
    go_enter Tryd.func89, Tryd.ntmps89
    go_wp2_with (go_at_call 72; refine (l1In_any _ _ _ _).mono ?_; rintro e w' ⟨rfl, rfl⟩)
    clear hb
    have H0 : Hid (Bo (w.alloc (.cells #[.slice a K c] 42)) w.heap.size (.slice a K c)) := Lib.hid (Bo.new _ _ _)
    go_loopw [3, 4, 13] (fun _ _ i wr => ∃ j : Nat, j ≤ K ∧ i = .int .i64 j ∧ okTo ps K j = true ∧ Bo wr w.heap.size (.slice a K c) ∧ Below w.heap.size w wr) (fun _ _ i _ => K - (RowKit.intOf i).toNat)
    case atStart => exact ⟨0, Nat.zero_le _, rfl, rfl, H0.out, HB.out _⟩
    case round =>
      clear H0
      obtain ⟨j, hj, rfl, hall, hbo, hbel⟩ := hrel
      have HALL := Lib.hid hall
      have HBL := Lib.hid hbel
      have HBO := Lib.hid hbo
      clear hall
      by_cases hlt : j < K
      · obtain ⟨g, rfl, hg, q⟩ := HX.out j hlt
        have q2 := q.of (hbel.block g hg)
        have HS := Lib.hid (HYES.out j)
        have HN := Lib.hid (HNO.out j hlt)
        clear q hbel
        obtain ⟨pt, hpt⟩ : ∃ pt, ps.getD j pt0 = pt := ⟨_, rfl⟩
        rw [hpt] at q2 HS HN
        obtain ⟨t, p, o⟩ := pt
        obtain ⟨k0, k1, k2⟩ := q2
        dsimp only at k0 k1 k2
        have hlt2 : (j : Int) < (K : Int) := by omega
        have HC := Lib.hid (fun w => omPart_any t p o j K w (by omega) (by omega) (by omega) (by omega))
        have hbb := hbo.1
        have hbs := hbo.2
        have hne : ¬ (w.heap.size = wr.heap.size) := by omega
        have hne2 : ¬ (wr.heap.size = w.heap.size) := by omega
        have HW := Lib.hid (fun X => HBO.out.grow X)
        have HBW := Lib.hid (fun X => HBL.out.alloc HBL.out.size X)
        clear hpt hbo
        cases hbv : ptOk (t, p, o) j K with
        | true =>
          rw [hbv] at HC HS
          clear HN hbv
          go_wp2_with fail
          refine (HC.out _).mono ?_
          rintro e w4 ⟨rfl, hb4⟩
          have HB4 := Lib.hid hb4
          have hk := hb4.mono (B' := w.heap.size) (by simp; omega)
          have HBo4 := Lib.hid ((HW.out _).kept hb4)
          have HBl4 := Lib.hid ((HBW.out _).trans hk)
          clear hb4 hk
          go_wp2_with fail
          exact ⟨⟨j + 1, hlt, by go_num, HS.out HALL.out (by simp), HBo4.out, HBl4.out⟩, by simp [RowKit.intOf]; omega⟩
        | false =>
          rw [hbv] at HC HN
          clear HS hbv
          go_wp2_with fail
          refine (HC.out _).mono ?_
          rintro e w4 ⟨rfl, hb4⟩
          have hk := hb4.mono (B' := w.heap.size) (by simp; omega)
          have HBl4 := Lib.hid ((HBW.out _).trans hk)
          clear hb4 hk
          go_wp2_with fail
          go_ret
          exact ⟨ret_bool (by rw [HE.out, HN.out trivial]), HBl4.out⟩
      · obtain rfl : j = K := by omega
        have hlt2 : ¬ ((j : Int) < (j : Int)) := by omega
        clear hbo hbel
        go_wp2_with fail
        go_ret
        exact ⟨ret_bool (by rw [HE.out, HALL.out]), HBL.out⟩

/-- Are all parts within their bounds? -/
def allPt (ps : List Pt) : Bool := ps.all ptIn
theorem allTo_yes {ps : List Pt} {j : Nat} (hj : j < ps.length) (h : allPt (ps.take j) = true) (hx : ptIn (ps.getD j pt0) = true) : allPt (ps.take (j + 1)) = true := by
  unfold allPt at *
  rw [List.take_add_one, List.all_append, h, List.getElem?_eq_getElem hj]
  rw [List.getD_eq_getElem?_getD, List.getElem?_eq_getElem hj] at hx
  simpa using hx
theorem allTo_no {ps : List Pt} {j : Nat} (hj : j < ps.length) (hx : ptIn (ps.getD j pt0) = false) : allPt ps = false := by
  rw [List.getD_eq_getElem?_getD, List.getElem?_eq_getElem hj] at hx
  unfold allPt
  rw [List.all_eq_false]
  exact ⟨_, List.getElem_mem hj, by simpa using hx⟩

set_option maxRecDepth 100000 in
set_option maxHeartbeats 4000000 in
theorem indexBeyond_any (ps : List Pt) (v : Value) (w : World) (hl : ps.length ≤ 1048576) (h : PartsIn w v ps) :
    Calls Tryd.prog 140 #[v, .func (.func 122) #[] #[]] w fun e w' => ∃ k : Int, e = .returned (.int .i64 k) ∧ (decide (0 ≤ k) = !allPt ps) ∧ -1 ≤ k ∧ k ≤ 1048576 ∧ Below w.heap.size w w' := by
  obtain ⟨a, c, rfl, hx⟩ := h.rd
  clear h
  have hef : ∀ (args : Array Value) (w : World), (callFunc 122 args).run Tryd.prog w = .ok (.enter 122 args) w := enters_of Tryd.func122 (by kernel_rfl) rfl
  obtain ⟨K, hK⟩ : ∃ K, ps.length = K := ⟨_, rfl⟩
  have HX := Lib.hid hx
  have HYES := Lib.hid (fun j => allTo_yes (ps := ps) (j := j))
  have HNO := Lib.hid (fun j => allTo_no (ps := ps) (j := j))
  have HF : Hid (ps.take K = ps) := Lib.hid (by rw [← hK]; exact List.take_length)
  rw [hK] at HX hl HYES HNO ⊢
  have hK2 : (K : Int) ≤ 1048576 := by omega
  clear hx hK
  go_enter Tryd.func140, Tryd.ntmps140
  go_wp2_with fail
  go_loopw [5, 8] (fun _ i wr => ∃ j : Nat, j ≤ K ∧ i = .int .i64 j ∧ allPt (ps.take j) = true ∧ Below w.heap.size w wr) (fun _ i _ => K - (RowKit.intOf i).toNat)
  case atStart => exact ⟨0, Nat.zero_le _, rfl, rfl, Below.refl _ _⟩
  case round =>
    obtain ⟨j, hj, rfl, hall, hbel⟩ := hrel
    have HALL := Lib.hid hall
    have HBL := Lib.hid hbel
    clear hall
    by_cases hlt : j < K
    · obtain ⟨g, rfl, hg, q⟩ := HX.out j hlt
      have q2 := q.of (hbel.block g hg)
      have HS := Lib.hid (HYES.out j hlt HALL.out)
      have HN := Lib.hid (HNO.out j hlt)
      clear q hbel
      obtain ⟨pt, hpt⟩ : ∃ pt, ps.getD j pt0 = pt := ⟨_, rfl⟩
      rw [hpt] at q2 HS HN
      obtain ⟨t, p, o⟩ := pt
      obtain ⟨k0, k1, k2⟩ := q2
      dsimp only at k0 k1 k2
      have hlt2 : (j : Int) < (K : Int) := by omega
      have HC := Lib.hid (fun w => isBeyond_any t p o w)
      clear hpt
      cases hbv : ptIn (t, p, o) with
      | true =>
        rw [hbv] at HC HS
        clear HN hbv
        go_wp2_with fail
        refine (HC.out _).mono ?_
        rintro e w4 ⟨rfl, hb4⟩
        have HBl4 := Lib.hid (HBL.out.trans (hb4.mono HBL.out.size))
        clear hb4
        go_wp2_with fail
        exact ⟨⟨j + 1, hlt, by go_num, HS.out (by simp), HBl4.out⟩, by simp [RowKit.intOf]; omega⟩
      | false =>
        rw [hbv] at HC HN
        clear HS hbv
        go_wp2_with fail
        refine (HC.out _).mono ?_
        rintro e w4 ⟨rfl, hb4⟩
        have HBl4 := Lib.hid (HBL.out.trans (hb4.mono HBL.out.size))
        clear hb4
        go_wp2_with fail
        go_ret
        refine ⟨_, rfl, ?_, by omega, by omega, HBl4.out⟩
        rw [HN.out trivial]
        simp
    · obtain rfl : j = K := by omega
      have hlt2 : ¬ ((j : Int) < (j : Int)) := by omega
      clear hbel
      go_wp2_with fail
      go_ret
      refine ⟨_, rfl, ?_, by omega, by omega, HBL.out⟩
      have h := HALL.out
      rw [HF.out] at h
      rw [h]
      rfl

theorem containsBeyond_any (ps : List Pt) (v : Value) (w : World) (hl : ps.length ≤ 1048576) (h : PartsIn w v ps) :
    Calls Tryd.prog 121 #[v, .func (.func 122) #[] #[]] w fun e w' => e = .returned (.bool (!allPt ps)) ∧ Below w.heap.size w w' := by
  have HC := Lib.hid (indexBeyond_any ps v w hl h)
  clear h hl
  go_enter Tryd.func121, Tryd.ntmps121
  go_wp2_with fail
  refine HC.out.mono ?_
  rintro e w4 ⟨k, rfl, hk, h1, h2, hb4⟩
  have HB := Lib.hid hb4
  have HK := Lib.hid hk
  clear hb4 hk
  go_wp2_with fail
  go_ret
  exact ⟨ret_bool HK.out, HB.out⟩
end Go.Proofs.YtgobjobppajkbaaDoor
