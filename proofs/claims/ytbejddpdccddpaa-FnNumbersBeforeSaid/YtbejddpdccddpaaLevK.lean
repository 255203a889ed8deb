/-
  'LeastOfLevel', 'CountOddOfLevel', 'BarrenOfLevel', 'IsInLevel' of both.
-/
import Derived.Test.YtbejddpdccddpaaLevJ
import Derived.Test.YtbejddpdccddpaaLevS
import Derived.Test.YtbejddpdccddpaaBarren
namespace Go.Proofs.Ytbejddpdccddpaa
open Go.RowKit Go.Maps
set_option linter.unusedVariables false

theorem lvX_false {short : Bool} {t p r k : Int} (h : lvB short t p r k = false) : lvX short t p r k = [] := by
  unfold lvB at h
  unfold lvX
  cases ho : lvO short t p r k with
  | none => rfl
  | some xs => rw [ho] at h; cases h
theorem lvX_num {short : Bool} {t p r k x : Int} (h : x ∈ lvX short t p r k) : goodB t p = true ∧ numB x = true := by
  unfold lvX at h
  cases ho : lvO short t p r k with
  | none => rw [ho] at h; simp at h
  | some xs =>
    rw [ho] at h
    obtain ⟨_, hg, hr, K, rfl, _, hl⟩ := lvO_some ho
    exact ⟨hg, levL_num hg hr hl h⟩
theorem lvX_len (short : Bool) (t p r k : Int) : (lvX short t p r k).length ≤ 2000 := lvO_len
/-- The least number of a level. -/
def llX (t p r k : Int) : Int := (lvX false t p r k).headD 0
def llB (t p r k : Int) : Bool := !(lvX false t p r k).isEmpty
/-- How many odd numbers a level has; its barren ones. -/
def coX (t p r k : Int) : Int := (((lvX false t p r k).filter oddB).length : Int)
def baX (t p r k : Int) : List Int := (lvX false t p r k).filter (barP t p)
theorem baX_len (t p r k : Int) : (baX t p r k).length ≤ 1000000000000 := by
  have h1 := lvX_len false t p r k
  have h2 := List.length_filter_le (barP t p) (lvX false t p r k)
  unfold baX
  omega
theorem take_filter {P : Int → Bool} {xs : List Int} {m : Nat} (h : m < xs.length) : (xs.take (m + 1)).filter P = (xs.take m).filter P ++ if P (xs.getD m 0) = true then [xs.getD m 0] else [] := by
  rw [List.take_add_one, List.getElem?_eq_getElem h, List.filter_append, List.getD_eq_getElem?_getD, List.getElem?_eq_getElem h]
  simp only [Option.toList_some, Option.getD_some, List.filter_cons, List.filter_nil]
/-- Is a number in a level? -/
def inX (t p r k n : Int) : Bool := lvB false t p r k && numB n && decide (n ∈ lvX false t p r k)
def inY (t p r k n : Int) : Bool := lvB false t p r k && numB n

set_option maxHeartbeats 2000000 in
theorem iLeastOfLevel (t p r k : Int) (w : World) :
    Calls Try.prog 10 #[.agg #[.int .i64 t, .int .i64 p], .int .i64 r, .int .i64 k] w fun e w' => e = .returned (.tuple #[.int .i64 (llX t p r k), .bool (llB t p r k)]) ∧ Below w.heap.size w w' := by
  have HL := Lib.hid (fun w => iLevelOf t p r k w)
  have HE := Lib.hid (fun (h : lvB false t p r k = false) => lvX_false h)
  have HX : Hid (llX t p r k = (lvX false t p r k).headD 0) := Lib.hid rfl
  have HY : Hid (llB t p r k = !(lvX false t p r k).isEmpty) := Lib.hid rfl
  generalize llX t p r k = a at HX ⊢
  generalize llB t p r k = b at HY ⊢
  generalize lvX false t p r k = xs at *
  generalize lvB false t p r k = ok at *
  go_enter Try.func10, Try.ntmps10
  go_wp2_with fail
  refine (HL.out _).mono ?_
  rintro e w1 ⟨v, rfl, hrow, hb1⟩
  obtain ⟨c0, c1, hz, hb⟩ := map_block hb1
  clear hb1
  cases xs with
  | nil =>
    obtain ⟨va, vc, rfl⟩ := hrow.form
    obtain rfl : a = 0 := HX.out
    obtain rfl : b = false := HY.out
    clear hrow
    cases ok
    all_goals
      go_wp2_with fail
      go_ret2
      exact ⟨rfl, hb⟩
  | cons x xs =>
    obtain ⟨g, cap, rfl, hgB, hgl, hcap, hcm, hir⟩ := ints_row hrow (Nat.succ_pos _)
    have q : w1.cell? ⟨g, 0, none⟩ = some (.int .i64 x) := (hir 0 (Nat.succ_pos _)).1
    obtain rfl : a = x := HX.out
    obtain rfl : b = true := HY.out
    cases ok
    · have := HE.out rfl
      cases this
    · simp only [List.length_cons] at hcap ⊢
      have hne : ¬ ((xs.length : Int) + 1 = 0) := by omega
      have hl1 : 0 < (xs.length : Int) + 1 := by omega
      have hcap2 : (xs.length : Int) + 1 ≤ (cap : Int) := by omega
      have hcm2 : (cap : Int) ≤ 9223372036854775807 := by unfold maxLen at hcm; omega
      clear hrow hir hcm HE HL
      go_wp2_with fail
      go_ret2
      exact ⟨rfl, hb⟩

set_option maxRecDepth 100000 in
set_option maxHeartbeats 4000000 in
theorem iCountOddOfLevel (t p r k : Int) (w : World) :
    Calls Try.prog 8 #[.agg #[.int .i64 t, .int .i64 p], .int .i64 r, .int .i64 k] w fun e w' => e = .returned (.tuple #[.int .i64 (coX t p r k), .bool (lvB false t p r k)]) ∧ Below w.heap.size w w' := by
  have HL := Lib.hid (fun w => iLevelOf t p r k w)
  have HE := Lib.hid (fun (h : lvB false t p r k = false) => lvX_false h)
  have HX : Hid (coX t p r k = (((lvX false t p r k).filter oddB).length : Int)) := Lib.hid rfl
  have hlen := lvX_len false t p r k
  generalize coX t p r k = a at HX ⊢
  generalize lvX false t p r k = xs at *
  generalize lvB false t p r k = ok at *
  go_enter Try.func8, Try.ntmps8
  go_wp2_with fail
  refine (HL.out _).mono ?_
  rintro e w1 ⟨v, rfl, hrow, hb1⟩
  obtain ⟨c0, c1, hz, hb⟩ := map_block hb1
  clear hb1
  obtain ⟨L, hL⟩ : ∃ L, xs.length = L := ⟨_, rfl⟩
  have HLN := Lib.hid hL
  by_cases hL0 : L = 0
  · obtain rfl : xs = [] := List.eq_nil_of_length_eq_zero (by omega)
    obtain ⟨va, vc, rfl⟩ := hrow.form
    obtain rfl : a = 0 := HX.out
    have HB := Lib.hid hb
    clear hrow hb hL hL0 HLN
    cases ok
    all_goals
      go_wp2_with fail
      refine wp_loop_rounds 1 ?_
      rw [rounds_succ]
      go_wp2
      go_ret2
      exact ⟨rfl, HB.out⟩
  · obtain ⟨g, cap, rfl, hgB, hgl, hcap, hcm, hir⟩ := ints_row hrow (by omega)
    cases ok
    · have := HE.out rfl
      rw [this] at hL
      simp at hL
      omega
    have HC := Lib.hid (fun m (hm : m < xs.length) => (hir m hm).1)
    have HTF := Lib.hid (fun m (hm : m < xs.length) => take_filter (P := oddB) hm)
    have HB := Lib.hid hb
    rw [hL] at hcap hlen HC HTF ⊢
    have hcap2 : (L : Int) ≤ (cap : Int) := by omega
    have hcm2 : (cap : Int) ≤ 9223372036854775807 := by unfold maxLen at hcm; omega
    have hL2 : (L : Int) ≤ 2000 := by omega
    clear hrow hir hcm hb hL HE HL c0 c1 hz
    go_wp2_with fail
    go_loop [10, 22] (fun c i => ∃ m : Nat, m ≤ L ∧ i = .int .i64 m ∧ ∃ n : Nat, c = .int .i64 n ∧ n = ((xs.take m).filter oddB).length) (fun _ i => L - (RowKit.intOf i).toNat)
    case atStart => exact ⟨0, Nat.zero_le _, rfl, 0, rfl, by simp⟩
    case round =>
      obtain ⟨m, hm, rfl, n, rfl, hn⟩ := hrel
      have hnm : n ≤ m := by rw [hn]; refine Nat.le_trans (List.length_filter_le _ _) ?_; rw [List.length_take]; omega
      have HN := Lib.hid hn
      clear hn
      by_cases hml : m < L
      · have hml2 : (m : Int) < (L : Int) := by omega
        have hn2 : (n : Int) ≤ 2000 := by omega
        have q := HC.out m hml
        have HT := Lib.hid (HTF.out m hml)
        obtain ⟨x, hx⟩ : ∃ x, xs.getD m 0 = x := ⟨_, rfl⟩
        rw [hx] at q HT
        clear hx
        cases ho : oddB x
        · have HN2 : Hid (n = ((xs.take (m + 1)).filter oddB).length) := Lib.hid (by rw [HT.out, ho, if_neg (by simp), List.append_nil]; exact HN.out)
          have HIO : Hid (∀ w, Calls Try.prog 36 #[.int .i64 x] w fun e w' => e = .returned (.bool false) ∧ w = w') := Lib.hid fun w => by
            have := isOdd_any x w
            rwa [ho] at this
          clear ho
          go_wp2_with (go_at_call 36; refine (HIO.out _).mono ?_; rintro e w' ⟨rfl, rfl⟩)
          exact ⟨⟨m + 1, hml, by go_num, n, by rfl, HN2.out⟩, by simp [RowKit.intOf]; omega⟩
        · have HN2 : Hid (n + 1 = ((xs.take (m + 1)).filter oddB).length) := Lib.hid (by rw [HT.out, ho, if_pos rfl, List.length_append, ← HN.out]; rfl)
          have HIO : Hid (∀ w, Calls Try.prog 36 #[.int .i64 x] w fun e w' => e = .returned (.bool true) ∧ w = w') := Lib.hid fun w => by
            have := isOdd_any x w
            rwa [ho] at this
          clear ho
          go_wp2_with (go_at_call 36; refine (HIO.out _).mono ?_; rintro e w' ⟨rfl, rfl⟩)
          exact ⟨⟨m + 1, hml, by go_num, n + 1, by go_num, HN2.out⟩, by simp [RowKit.intOf]; omega⟩
      · obtain rfl : m = L := by omega
        have hml2 : ¬ ((m : Int) < (m : Int)) := by omega
        have HA : Hid (a = n) := Lib.hid (by rw [HX.out, HN.out, List.take_of_length_le (by have := HLN.out; omega)])
        go_wp2_with fail
        go_ret2
        exact ⟨by rw [HA.out]; rfl, HB.out⟩

set_option maxRecDepth 100000 in
set_option maxHeartbeats 4000000 in
theorem iBarrenOfLevel (t p r k : Int) (w : World) :
    Calls Try.prog 12 #[.agg #[.int .i64 t, .int .i64 p], .int .i64 r, .int .i64 k] w (RetInts (baX t p r k) (lvB false t p r k) w) := by
  obtain ⟨i0, hi, hi0, hi1, hi2⟩ := info_parts info3
  have HL := Lib.hid (fun w => iLevelOf t p r k w)
  have HE := Lib.hid (fun (h : lvB false t p r k = false) => lvX_false h)
  have HX : Hid (baX t p r k = (lvX false t p r k).filter (barP t p)) := Lib.hid rfl
  have hlen := lvX_len false t p r k
  have HBA := Lib.hid (fun x w (hx : x ∈ lvX false t p r k) => isBarren_any t p x w (lvX_num hx).1 (lvX_num hx).2)
  generalize baX t p r k = rs at HX ⊢
  generalize lvX false t p r k = xs at *
  generalize lvB false t p r k = ok at *
  go_enter Try.func12, Try.ntmps12
  go_wp2_with fail
  refine (HL.out _).mono ?_
  rintro e w1 ⟨v, rfl, hrow, hb1⟩
  obtain ⟨c0, c1, hz, hb⟩ := map_block hb1
  clear hb1
  obtain ⟨L, hL⟩ : ∃ L, xs.length = L := ⟨_, rfl⟩
  have HLN := Lib.hid hL
  by_cases hL0 : L = 0
  · obtain rfl : xs = [] := List.eq_nil_of_length_eq_zero (by omega)
    obtain ⟨va, vc, rfl⟩ := hrow.form
    obtain rfl : rs = [] := HX.out
    have HB := Lib.hid hb
    clear hrow hb hL hL0 HLN
    cases ok
    all_goals
      go_wp2_with fail
      refine wp_loop_rounds 1 ?_
      rw [rounds_succ]
      go_wp2
      go_ret2
      exact ⟨_, rfl, intsAt_nil _ _, HB.out⟩
  · obtain ⟨g, cap, rfl, hgB, hgl, hcap, hcm, hir⟩ := ints_row hrow (by omega)
    cases ok
    · have := HE.out rfl
      rw [this] at hL
      simp at hL
      omega
    have HC := Lib.hid (fun m (hm : m < xs.length) => (hir m hm).1)
    have HTF := Lib.hid (fun m (hm : m < xs.length) => take_filter (P := barP t p) hm)
    have HMX : Hid (∀ m, m < xs.length → xs.getD m 0 ∈ xs) := Lib.hid (fun m hm => by rw [List.getD_eq_getElem?_getD, List.getElem?_eq_getElem hm]; exact List.getElem_mem hm)
    have HB := Lib.hid hb
    rw [hL] at hcap hlen HC HTF HMX ⊢
    have hcap2 : (L : Int) ≤ (cap : Int) := by omega
    have hcm2 : (cap : Int) ≤ 9223372036854775807 := by unfold maxLen at hcm; omega
    have hL2 : (L : Int) ≤ 2000 := by omega
    obtain ⟨wo, rfl⟩ : ∃ wo : World, wo = w1 := ⟨_, rfl⟩
    clear hrow hir hcm hb hL HE HL
    go_wp2_with fail
    go_loopw [10, 22] (fun c i wr => ∃ m : Nat, m ≤ L ∧ i = .int .i64 m ∧ IntsAt wr wo.heap.size c ((xs.take m).filter (barP t p)) ∧ Below wo.heap.size wo wr) (fun _ i _ => L - (RowKit.intOf i).toNat)
    case atStart => exact ⟨0, Nat.zero_le _, rfl, by rw [List.take_zero]; exact intsAt_nil _ _, Below.refl _ _⟩
    case round =>
      obtain ⟨m, hm, rfl, hown, hbel⟩ := hrel
      have HO := Lib.hid hown
      have HBE := Lib.hid hbel
      have hsS := hbel.size
      have e0 : wr.cell? ⟨w.heap.size, 0, none⟩ = some (.int .i64 t) := (hbel.cell (p := ⟨w.heap.size, 0, none⟩) hz).trans c0
      have e1 : wr.cell? ⟨w.heap.size, 1, none⟩ = some (.int .i64 p) := (hbel.cell (p := ⟨w.heap.size, 1, none⟩) hz).trans c1
      have hfl : ((xs.take m).filter (barP t p)).length ≤ m := by refine Nat.le_trans (List.length_filter_le _ _) ?_; rw [List.length_take]; omega
      clear hown
      by_cases hml : m < L
      · have hml2 : (m : Int) < (L : Int) := by omega
        have q := (hbel.cell (p := ⟨g, m, none⟩) hgl).trans (HC.out m hml)
        have HT := Lib.hid (HTF.out m hml)
        have HXM := Lib.hid (HMX.out m hml)
        obtain ⟨x, hx⟩ : ∃ x, xs.getD m 0 = x := ⟨_, rfl⟩
        rw [hx] at q HT HXM
        have HBX := Lib.hid (fun w => HBA.out x w HXM.out)
        have hsz := Nat.lt_of_lt_of_le hz hsS
        clear hx hbel
        cases ho : barP t p x
        · have HN2 : Hid ((xs.take (m + 1)).filter (barP t p) = (xs.take m).filter (barP t p)) := Lib.hid (by rw [HT.out, ho, if_neg (by simp), List.append_nil])
          rw [ho] at HBX
          clear ho
          go_wp2_with fail
          refine (HBX.out _).mono ?_
          rintro e w2 ⟨rfl, hb2⟩
          have HO2 := Lib.hid (HO.out.keptI hb2)
          have HBE2 := Lib.hid (HBE.out.trans (hb2.mono hsS))
          clear hb2 e0 e1
          go_wp2_with fail
          exact ⟨⟨m + 1, hml, by go_num, by rw [HN2.out]; exact HO2.out, HBE2.out⟩, by simp [RowKit.intOf]; omega⟩
        · have HN2 : Hid ((xs.take (m + 1)).filter (barP t p) = (xs.take m).filter (barP t p) ++ [x]) := Lib.hid (by rw [HT.out, ho, if_pos rfl])
          rw [ho] at HBX
          obtain ⟨ys, hys⟩ : ∃ ys, (xs.take m).filter (barP t p) = ys := ⟨_, rfl⟩
          rw [hys] at HO HN2 hfl
          have hj3 : ys.length + 1 ≤ maxLen := by unfold maxLen; omega
          clear ho hys
          go_wp2_with fail
          refine (HBX.out _).mono ?_
          rintro e w2 ⟨rfl, hb2⟩
          have HO2 := Lib.hid (HO.out.keptI hb2)
          have hbe2 := HBE.out.trans (hb2.mono hsS)
          have HBE2 := Lib.hid hbe2
          have hs2 := Nat.le_trans hsS hb2.size
          have q2 := (hbe2.cell (p := ⟨g, m, none⟩) hgl).trans (HC.out m hml)
          clear hb2 e0 e1 q hbe2
          go_wp2_with (at_builtin; refine wpList_append_own _ rfl _ _ 28 rfl wo.heap.size 3 i0 (.int .i64 0) 1 8 Try.underlying28 hi hi0 hi1 hi2 rfl (by decide) _ _ _ rfl (HO2.out.alloc _) ⟨w2.heap.size, 0, none⟩ 1 1 [.int .i64 x] rfl rfl (fun j u hu => new_cell _ _ _ hu) (by simp [Value.oneCell']) hj3 (by omega) (by simp; omega) ?_; intro v3 w3 hown3 hgrow3 _)
          refine ⟨⟨m + 1, hml, by go_num, ?_, (HBE2.out.alloc hs2 _).grown hgrow3 (by simp; omega) (fun k e => (World.ownsRow.lt HO2.out k e).1)⟩, by simp [RowKit.intOf]; omega⟩
          rw [HN2.out]
          unfold IntsAt
          rw [List.length_append, List.map_append]
          exact hown3
      · obtain rfl : m = L := by omega
        have hml2 : ¬ ((m : Int) < (m : Int)) := by omega
        have HA : Hid (rs = (xs.take m).filter (barP t p)) := Lib.hid (by rw [HX.out, List.take_of_length_le (by have := HLN.out; omega)])
        go_wp2_with fail
        go_ret2
        refine ⟨_, rfl, by rw [HA.out]; exact ownsRow_base HO.out (Nat.le_of_lt hz), HB.out.trans (HBE.out.mono (Nat.le_of_lt hz))⟩

set_option maxHeartbeats 2000000 in
theorem sLeastOfLevel (t p r k : Int) (w : World) :
    Calls Try.prog 11 #[.agg #[.int .i64 t, .int .i64 p], .int .i64 r, .int .i64 k] w fun e w' => e = .returned (.tuple #[.int .i64 (llX t p r k), .bool (llB t p r k)]) ∧ Below w.heap.size w w' := by
  have HL := Lib.hid (fun w => trLevel_any false t p r k w)
  have HE := Lib.hid (fun (h : lvB false t p r k = false) => lvX_false h)
  have HX : Hid (llX t p r k = (lvX false t p r k).headD 0) := Lib.hid rfl
  have HY : Hid (llB t p r k = !(lvX false t p r k).isEmpty) := Lib.hid rfl
  generalize llX t p r k = a at HX ⊢
  generalize llB t p r k = b at HY ⊢
  generalize lvX false t p r k = xs at *
  generalize lvB false t p r k = ok at *
  go_enter Try.func11, Try.ntmps11
  go_wp2_with fail
  refine (HL.out _).mono ?_
  rintro e w1 ⟨v, rfl, hrow, hb1⟩
  obtain ⟨c0, c1, hz, hb⟩ := map_block hb1
  clear hb1
  cases xs with
  | nil =>
    obtain ⟨va, vc, rfl⟩ := hrow.form
    obtain rfl : a = 0 := HX.out
    obtain rfl : b = false := HY.out
    clear hrow
    cases ok
    all_goals
      go_wp2_with fail
      go_ret2
      exact ⟨rfl, hb⟩
  | cons x xs =>
    obtain ⟨g, cap, rfl, hgB, hgl, hcap, hcm, hir⟩ := ints_row hrow (Nat.succ_pos _)
    have q : w1.cell? ⟨g, 0, none⟩ = some (.int .i64 x) := (hir 0 (Nat.succ_pos _)).1
    obtain rfl : a = x := HX.out
    obtain rfl : b = true := HY.out
    cases ok
    · have := HE.out rfl
      cases this
    · simp only [List.length_cons] at hcap ⊢
      have hne : ¬ ((xs.length : Int) + 1 = 0) := by omega
      have hl1 : 0 < (xs.length : Int) + 1 := by omega
      have hcap2 : (xs.length : Int) + 1 ≤ (cap : Int) := by omega
      have hcm2 : (cap : Int) ≤ 9223372036854775807 := by unfold maxLen at hcm; omega
      clear hrow hir hcm HE HL
      go_wp2_with fail
      go_ret2
      exact ⟨rfl, hb⟩

set_option maxRecDepth 100000 in
set_option maxHeartbeats 4000000 in
theorem sCountOddOfLevel (t p r k : Int) (w : World) :
    Calls Try.prog 9 #[.agg #[.int .i64 t, .int .i64 p], .int .i64 r, .int .i64 k] w fun e w' => e = .returned (.tuple #[.int .i64 (coX t p r k), .bool (lvB false t p r k)]) ∧ Below w.heap.size w w' := by
  have HL := Lib.hid (fun w => trLevel_any false t p r k w)
  have HE := Lib.hid (fun (h : lvB false t p r k = false) => lvX_false h)
  have HX : Hid (coX t p r k = (((lvX false t p r k).filter oddB).length : Int)) := Lib.hid rfl
  have hlen := lvX_len false t p r k
  generalize coX t p r k = a at HX ⊢
  generalize lvX false t p r k = xs at *
  generalize lvB false t p r k = ok at *
  go_enter Try.func9, Try.ntmps9
  go_wp2_with fail
  refine (HL.out _).mono ?_
  rintro e w1 ⟨v, rfl, hrow, hb1⟩
  obtain ⟨c0, c1, hz, hb⟩ := map_block hb1
  clear hb1
  obtain ⟨L, hL⟩ : ∃ L, xs.length = L := ⟨_, rfl⟩
  have HLN := Lib.hid hL
  by_cases hL0 : L = 0
  · obtain rfl : xs = [] := List.eq_nil_of_length_eq_zero (by omega)
    obtain ⟨va, vc, rfl⟩ := hrow.form
    obtain rfl : a = 0 := HX.out
    have HB := Lib.hid hb
    clear hrow hb hL hL0 HLN
    cases ok
    all_goals
      go_wp2_with fail
      try refine wp_loop_rounds 1 ?_
      try rw [rounds_succ]
      try go_wp2
      go_ret2
      exact ⟨rfl, HB.out⟩
  · obtain ⟨g, cap, rfl, hgB, hgl, hcap, hcm, hir⟩ := ints_row hrow (by omega)
    cases ok
    · have := HE.out rfl
      rw [this] at hL
      simp at hL
      omega
    have HC := Lib.hid (fun m (hm : m < xs.length) => (hir m hm).1)
    have HTF := Lib.hid (fun m (hm : m < xs.length) => take_filter (P := oddB) hm)
    have HB := Lib.hid hb
    rw [hL] at hcap hlen HC HTF ⊢
    have hcap2 : (L : Int) ≤ (cap : Int) := by omega
    have hcm2 : (cap : Int) ≤ 9223372036854775807 := by unfold maxLen at hcm; omega
    have hL2 : (L : Int) ≤ 2000 := by omega
    clear hrow hir hcm hb hL HE HL c0 c1 hz
    go_wp2_with fail
    go_loop [10, 24] (fun c i => ∃ m : Nat, m ≤ L ∧ i = .int .i64 m ∧ ∃ n : Nat, c = .int .i64 n ∧ n = ((xs.take m).filter oddB).length) (fun _ i => L - (RowKit.intOf i).toNat)
    case atStart => exact ⟨0, Nat.zero_le _, rfl, 0, rfl, by simp⟩
    case round =>
      obtain ⟨m, hm, rfl, n, rfl, hn⟩ := hrel
      have hnm : n ≤ m := by rw [hn]; refine Nat.le_trans (List.length_filter_le _ _) ?_; rw [List.length_take]; omega
      have HN := Lib.hid hn
      clear hn
      by_cases hml : m < L
      · have hml2 : (m : Int) < (L : Int) := by omega
        have hn2 : (n : Int) ≤ 2000 := by omega
        have q := HC.out m hml
        have HT := Lib.hid (HTF.out m hml)
        obtain ⟨x, hx⟩ : ∃ x, xs.getD m 0 = x := ⟨_, rfl⟩
        rw [hx] at q HT
        clear hx
        cases ho : oddB x
        · have HN2 : Hid (n = ((xs.take (m + 1)).filter oddB).length) := Lib.hid (by rw [HT.out, ho, if_neg (by simp), List.append_nil]; exact HN.out)
          have hom : x.tmod 2 = 0 := by
            have h := oddB_tmod x
            rw [ho] at h
            simpa using h
          clear ho
          go_wp2_with fail
          exact ⟨⟨m + 1, hml, by go_num, n, by rfl, HN2.out⟩, by simp [RowKit.intOf]; omega⟩
        · have HN2 : Hid (n + 1 = ((xs.take (m + 1)).filter oddB).length) := Lib.hid (by rw [HT.out, ho, if_pos rfl, List.length_append, ← HN.out]; rfl)
          have hom : ¬ (x.tmod 2 = 0) := by
            have h := oddB_tmod x
            rw [ho] at h
            simpa using h
          clear ho
          go_wp2_with fail
          exact ⟨⟨m + 1, hml, by go_num, n + 1, by go_num, HN2.out⟩, by simp [RowKit.intOf]; omega⟩
      · obtain rfl : m = L := by omega
        have hml2 : ¬ ((m : Int) < (m : Int)) := by omega
        have HA : Hid (a = n) := Lib.hid (by rw [HX.out, HN.out, List.take_of_length_le (by have := HLN.out; omega)])
        go_wp2_with fail
        go_ret2
        exact ⟨by rw [HA.out]; rfl, HB.out⟩

set_option maxRecDepth 100000 in
set_option maxHeartbeats 4000000 in
theorem sBarrenOfLevel (t p r k : Int) (w : World) :
    Calls Try.prog 13 #[.agg #[.int .i64 t, .int .i64 p], .int .i64 r, .int .i64 k] w (RetInts (baX t p r k) (lvB false t p r k) w) := by
  obtain ⟨i0, hi, hi0, hi1, hi2⟩ := info_parts info3
  have HL := Lib.hid (fun w => trLevel_any false t p r k w)
  have HE := Lib.hid (fun (h : lvB false t p r k = false) => lvX_false h)
  have HX : Hid (baX t p r k = (lvX false t p r k).filter (barP t p)) := Lib.hid rfl
  have hlen := lvX_len false t p r k
  have HBA := Lib.hid (fun x w (hx : x ∈ lvX false t p r k) => trBarren_any t p x w (lvX_num hx).1 (lvX_num hx).2)
  generalize baX t p r k = rs at HX ⊢
  generalize lvX false t p r k = xs at *
  generalize lvB false t p r k = ok at *
  go_enter Try.func13, Try.ntmps13
  go_wp2_with fail
  refine (HL.out _).mono ?_
  rintro e w1 ⟨v, rfl, hrow, hb1⟩
  obtain ⟨c0, c1, hz, hb⟩ := map_block hb1
  clear hb1
  obtain ⟨L, hL⟩ : ∃ L, xs.length = L := ⟨_, rfl⟩
  have HLN := Lib.hid hL
  by_cases hL0 : L = 0
  · obtain rfl : xs = [] := List.eq_nil_of_length_eq_zero (by omega)
    obtain ⟨va, vc, rfl⟩ := hrow.form
    obtain rfl : rs = [] := HX.out
    have HB := Lib.hid hb
    clear hrow hb hL hL0 HLN
    cases ok
    all_goals
      go_wp2_with fail
      try refine wp_loop_rounds 1 ?_
      try rw [rounds_succ]
      try go_wp2
      go_ret2
      exact ⟨_, rfl, intsAt_nil _ _, HB.out⟩
  · obtain ⟨g, cap, rfl, hgB, hgl, hcap, hcm, hir⟩ := ints_row hrow (by omega)
    cases ok
    · have := HE.out rfl
      rw [this] at hL
      simp at hL
      omega
    have HC := Lib.hid (fun m (hm : m < xs.length) => (hir m hm).1)
    have HTF := Lib.hid (fun m (hm : m < xs.length) => take_filter (P := barP t p) hm)
    have HMX : Hid (∀ m, m < xs.length → xs.getD m 0 ∈ xs) := Lib.hid (fun m hm => by rw [List.getD_eq_getElem?_getD, List.getElem?_eq_getElem hm]; exact List.getElem_mem hm)
    have HB := Lib.hid hb
    rw [hL] at hcap hlen HC HTF HMX ⊢
    have hcap2 : (L : Int) ≤ (cap : Int) := by omega
    have hcm2 : (cap : Int) ≤ 9223372036854775807 := by unfold maxLen at hcm; omega
    have hL2 : (L : Int) ≤ 2000 := by omega
    obtain ⟨wo, rfl⟩ : ∃ wo : World, wo = w1 := ⟨_, rfl⟩
    clear hrow hir hcm hb hL HE HL
    go_wp2_with fail
    go_loopw [10, 24] (fun c i wr => ∃ m : Nat, m ≤ L ∧ i = .int .i64 m ∧ IntsAt wr wo.heap.size c ((xs.take m).filter (barP t p)) ∧ Below wo.heap.size wo wr) (fun _ i _ => L - (RowKit.intOf i).toNat)
    case atStart => exact ⟨0, Nat.zero_le _, rfl, by rw [List.take_zero]; exact intsAt_nil _ _, Below.refl _ _⟩
    case round =>
      obtain ⟨m, hm, rfl, hown, hbel⟩ := hrel
      have HO := Lib.hid hown
      have HBE := Lib.hid hbel
      have hsS := hbel.size
      have e0 : wr.cell? ⟨w.heap.size, 0, none⟩ = some (.int .i64 t) := (hbel.cell (p := ⟨w.heap.size, 0, none⟩) hz).trans c0
      have e1 : wr.cell? ⟨w.heap.size, 1, none⟩ = some (.int .i64 p) := (hbel.cell (p := ⟨w.heap.size, 1, none⟩) hz).trans c1
      have hfl : ((xs.take m).filter (barP t p)).length ≤ m := by refine Nat.le_trans (List.length_filter_le _ _) ?_; rw [List.length_take]; omega
      clear hown
      by_cases hml : m < L
      · have hml2 : (m : Int) < (L : Int) := by omega
        have q := (hbel.cell (p := ⟨g, m, none⟩) hgl).trans (HC.out m hml)
        have HT := Lib.hid (HTF.out m hml)
        have HXM := Lib.hid (HMX.out m hml)
        obtain ⟨x, hx⟩ : ∃ x, xs.getD m 0 = x := ⟨_, rfl⟩
        rw [hx] at q HT HXM
        have HBX := Lib.hid (fun w => HBA.out x w HXM.out)
        have hsz := Nat.lt_of_lt_of_le hz hsS
        clear hx hbel
        cases ho : barP t p x
        · have HN2 : Hid ((xs.take (m + 1)).filter (barP t p) = (xs.take m).filter (barP t p)) := Lib.hid (by rw [HT.out, ho, if_neg (by simp), List.append_nil])
          rw [ho] at HBX
          clear ho
          go_wp2_with fail
          refine (HBX.out _).mono ?_
          rintro e w2 ⟨rfl, hb2⟩
          have HO2 := Lib.hid (HO.out.keptI hb2)
          have HBE2 := Lib.hid (HBE.out.trans (hb2.mono hsS))
          clear hb2 e0 e1
          go_wp2_with fail
          exact ⟨⟨m + 1, hml, by go_num, by rw [HN2.out]; exact HO2.out, HBE2.out⟩, by simp [RowKit.intOf]; omega⟩
        · have HN2 : Hid ((xs.take (m + 1)).filter (barP t p) = (xs.take m).filter (barP t p) ++ [x]) := Lib.hid (by rw [HT.out, ho, if_pos rfl])
          rw [ho] at HBX
          obtain ⟨ys, hys⟩ : ∃ ys, (xs.take m).filter (barP t p) = ys := ⟨_, rfl⟩
          rw [hys] at HO HN2 hfl
          have hj3 : ys.length + 1 ≤ maxLen := by unfold maxLen; omega
          clear ho hys
          go_wp2_with fail
          refine (HBX.out _).mono ?_
          rintro e w2 ⟨rfl, hb2⟩
          have HO2 := Lib.hid (HO.out.keptI hb2)
          have hbe2 := HBE.out.trans (hb2.mono hsS)
          have HBE2 := Lib.hid hbe2
          have hs2 := Nat.le_trans hsS hb2.size
          have q2 := (hbe2.cell (p := ⟨g, m, none⟩) hgl).trans (HC.out m hml)
          clear hb2 e0 e1 q hbe2
          go_wp2_with (at_builtin; refine wpList_append_own _ rfl _ _ 28 rfl wo.heap.size 3 i0 (.int .i64 0) 1 8 Try.underlying28 hi hi0 hi1 hi2 rfl (by decide) _ _ _ rfl (HO2.out.alloc _) ⟨w2.heap.size, 0, none⟩ 1 1 [.int .i64 x] rfl rfl (fun j u hu => new_cell _ _ _ hu) (by simp [Value.oneCell']) hj3 (by omega) (by simp; omega) ?_; intro v3 w3 hown3 hgrow3 _)
          refine ⟨⟨m + 1, hml, by go_num, ?_, (HBE2.out.alloc hs2 _).grown hgrow3 (by simp; omega) (fun k e => (World.ownsRow.lt HO2.out k e).1)⟩, by simp [RowKit.intOf]; omega⟩
          rw [HN2.out]
          unfold IntsAt
          rw [List.length_append, List.map_append]
          exact hown3
      · obtain rfl : m = L := by omega
        have hml2 : ¬ ((m : Int) < (m : Int)) := by omega
        have HA : Hid (rs = (xs.take m).filter (barP t p)) := Lib.hid (by rw [HX.out, List.take_of_length_le (by have := HLN.out; omega)])
        go_wp2_with fail
        go_ret2
        refine ⟨_, rfl, by rw [HA.out]; exact ownsRow_base HO.out (Nat.le_of_lt hz), HB.out.trans (HBE.out.mono (Nat.le_of_lt hz))⟩

end Go.Proofs.Ytbejddpdccddpaa
