/-
  'CyclesUpTo' of both.
-/
import Derived.Test.YtlbiafeiedhhfaaLost
import Derived.Test.YtlbiafeiedhhfaaPutW
import Derived.Test.YtlbiafeiedhhfaaKeysB
namespace Go.Proofs.Ytlbiafeiedhhfaa
open Go.RowKit Go.Maps
set_option linter.unusedVariables false

/-- What CyclesUpTo comes to. -/
def cupL (t p k : Int) : List Int := if askL t p k = true then lowsL t p k.toNat else []
theorem cup_len (t p k : Int) : (cupL t p k).length ≤ 1000000000000 := by
  unfold cupL
  split
  · rename_i h
    have hi : inB k 1 300 = true := by simp only [askL, Bool.and_eq_true] at h; exact h.2
    have hk : 1 ≤ k ∧ k ≤ 300 := by simpa [inB] using hi
    have := lows_len t p k.toNat
    omega
  · simp
theorem ownsMap_grow {w : World} {b n n' : Nat} {R : Value → Option (DataW Unit × List MemPlace)} {D : DataW Unit} (h : w.ownsMap Try.prog 3 R b n D) (hn : n ≤ n') : w.ownsMap Try.prog 3 R b n' D := by
  obtain ⟨es, clock, h1, h2, h3, h4⟩ := h
  exact ⟨es, clock, h1, h2, by omega, h4⟩
theorem ownsMapB_below {w w' : World} {b k : Nat} {D : DataW Unit} (h : w.ownsMap Try.prog 3 (plainElem Try.prog 4) b k D) (hb : b < w.heap.size) (hbel : Below w.heap.size w w') : w'.ownsMap Try.prog 3 (plainElem Try.prog 4) b k D := by
  obtain ⟨es, clock, h1, h2, h3, h4⟩ := h
  exact ⟨es, clock, (hbel.block b hb).trans h1, h2, h3, h4⟩
/-- A list that is nil just where it has nothing. -/
def UpAt (w : World) (B : Nat) (v : Value) (xs : List Int) : Prop := (v = .slice none 0 0 ∧ xs = []) ∨ (xs ≠ [] ∧ IntsAt w B v xs)
theorem UpAt.isAt {w : World} {B : Nat} {v : Value} {xs : List Int} (h : UpAt w B v xs) : IntsAt w B v xs := by
  rcases h with ⟨rfl, rfl⟩ | ⟨_, h⟩
  · exact World.ownsRow_nil _ _ _ _
  · exact h
theorem UpAt.kept {w w' : World} {B : Nat} {v : Value} {xs : List Int} (h : UpAt w B v xs) (hb : Below w.heap.size w w') : UpAt w' B v xs := by
  rcases h with h | ⟨h1, h2⟩
  · exact .inl h
  · exact .inr ⟨h1, ownsRow_kept h2 hb⟩
theorem l1Has_up {w : World} {B : Nat} {v : Value} {xs : List Int} (x : Int) (h : UpAt w B v xs) (hl : xs.length ≤ 1000) :
    Calls Try.prog 30 #[v, .int .i64 x] w fun e w' => e = .returned (.bool (decide (x ∈ xs))) ∧ w = w' := by
  rcases h with ⟨rfl, rfl⟩ | ⟨h1, h2⟩
  · simpa using l1Has_nil x w
  · obtain ⟨g, cap, rfl, _, _, _, _, hr⟩ := ints_row h2 (List.length_pos_iff.2 h1)
    exact l1Has_row xs x g cap w hl hr
theorem l1Put_up {w : World} {B : Nat} {v : Value} {xs : List Int} (x : Int) (h : UpAt w B v xs) (hl : xs.length ≤ 1000) (hx : x ∉ xs) :
    Calls Try.prog 31 #[v, .int .i64 x] w fun e w' => ∃ v', e = .returned v' ∧ IntsAt w' w.heap.size v' (putI x xs) ∧ Below w.heap.size w w' := by
  rcases h with ⟨rfl, rfl⟩ | ⟨h1, h2⟩
  · exact l1Put_nil x w
  · obtain ⟨g, cap, rfl, _, hg, hc, hcm, hr⟩ := ints_row h2 (List.length_pos_iff.2 h1)
    exact l1Put_row xs x g cap w h1 hl hc hcm hr hg hx
theorem first_cell {w : World} {B : Nat} {v : Value} {x : Int} {xs : List Int} (h : IntsAt w B v xs) (hx : xs = x :: xs.tail) : ∃ g n cap, v = .slice (some ⟨g, 0, none⟩) (n + 1) cap ∧ B ≤ g ∧ g < w.heap.size ∧ n ≤ maxLen ∧ w.cell? ⟨g, 0, none⟩ = some (.int .i64 x) := by
  have hp : 0 < xs.length := by rw [hx]; simp
  obtain ⟨g, cap, rfl, h1, h2, h3, h4, hr⟩ := ints_row h hp
  refine ⟨g, xs.length - 1, cap, by rw [Nat.sub_add_cancel hp], h1, h2, by omega, ?_⟩
  have := (hr 0 hp).1
  rw [hx] at this
  exact this

set_option maxRecDepth 100000 in
set_option maxHeartbeats 4000000 in
theorem iCyclesUpTo (t p k : Int) (w : World) :
    Calls Try.prog 19 #[.agg #[.int .i64 t, .int .i64 p], .int .i64 k] w (RetInts (cupL t p k) (askL t p k) w) := by
  have HM := Lib.hid (fun w => isMap_any t p w)
  have HI := Lib.hid (fun w => isFoundLimit_any k w)
  cases hg : goodB t p
  · have HA : Hid (askL t p k = false) := Lib.hid (by rw [askL, hg]; rfl)
    have HY : Hid (cupL t p k = []) := Lib.hid (by rw [cupL, if_neg (by simp [askL, hg])])
    rw [hg] at HM
    clear hg
    go_enter Try.func19, Try.ntmps19
    go_wp2_with fail
    refine (HM.out _).mono ?_
    rintro e w1 ⟨rfl, hb1⟩
    obtain ⟨c0, c1, hz, hb⟩ := map_block hb1
    clear hb1
    go_wp2_with fail
    go_ret2
    exact retI_none HY.out HA.out hb
  · rw [hg] at HM
    cases hi : inB k 1 300
    · have HA : Hid (askL t p k = false) := Lib.hid (by rw [askL, hi, Bool.and_false])
      have HY : Hid (cupL t p k = []) := Lib.hid (by rw [cupL, if_neg (by simp [askL, hi])])
      rw [hi] at HI
      clear hg hi
      go_enter Try.func19, Try.ntmps19
      go_wp2_with fail
      refine (HM.out _).mono ?_
      rintro e w1 ⟨rfl, hb1⟩
      obtain ⟨c0, c1, hz, hb⟩ := map_block hb1
      clear hb1
      go_wp2_with (go_at_call 32; refine (HI.out _).mono ?_; rintro e w' ⟨rfl, rfl⟩)
      go_ret2
      exact retI_none HY.out HA.out hb
    · have HA : Hid (askL t p k = true) := Lib.hid (by rw [askL, hg, hi]; rfl)
      have hk : 1 ≤ k ∧ k ≤ 300 := by simpa [inB] using hi
      obtain ⟨K, rfl⟩ : ∃ K : Nat, k = K := ⟨k.toNat, by omega⟩
      have HY : Hid (cupL t p K = lowsL t p K) := Lib.hid (by rw [cupL, if_pos HA.out]; rfl)
      have hK : (K : Int) ≤ 300 := hk.2
      have hmm := @run_makeMap Try.prog
      rw [hi] at HI
      clear hg hi hk
      go_enter Try.func19, Try.ntmps19
      go_wp2_with fail
      refine (HM.out _).mono ?_
      rintro e w1 ⟨rfl, hb1⟩
      obtain ⟨c0, c1, hz, hb⟩ := map_block hb1
      have HB0 := Lib.hid hb
      have hs0 := hb.size
      clear hb1 hb
      go_wp2_with (go_at_call 32; refine (HI.out _).mono ?_; rintro e w' ⟨rfl, rfl⟩)
      have HO0 : Hid ((w1.alloc (.map #[] 0)).ownsMap Try.prog 3 (plainElem (H := Unit) Try.prog 4) w1.heap.size 0 (lowsD t p 0)) := Lib.hid (World.ownsMap_made (H := Unit) _ _ _ _)
      obtain ⟨b, hbb⟩ : ∃ b, b = w1.heap.size := ⟨_, rfl⟩
      rw [← hbb] at HO0 ⊢
      have HBB := Lib.hid hbb
      have hwb : w.heap.size < b := by omega
      clear hbb hmm hs0
      go_loopw [7] (fun i wr => ∃ j : Nat, j ≤ K ∧ i = .int .i64 ((j : Int) + 1) ∧ wr.ownsMap Try.prog 3 (plainElem (H := Unit) Try.prog 4) b j (lowsD t p j) ∧ wr.cell? ⟨w.heap.size, 0, none⟩ = some (.int .i64 t) ∧ wr.cell? ⟨w.heap.size, 1, none⟩ = some (.int .i64 p) ∧ w.heap.size < wr.heap.size ∧ Below w.heap.size w wr) (fun i _ => K + 1 - (RowKit.intOf i).toNat)
      case atStart =>
        refine ⟨0, Nat.zero_le _, rfl, HO0.out, ?_, ?_, by simp; omega, HB0.out.alloc HB0.out.size _⟩
        · exact ((Below.refl w1.heap.size w1).alloc (Nat.le_refl _) _).cell (p := ⟨w.heap.size, 0, none⟩) hz |>.trans c0
        · exact ((Below.refl w1.heap.size w1).alloc (Nat.le_refl _) _).cell (p := ⟨w.heap.size, 1, none⟩) hz |>.trans c1
      case round =>
        clear c0 c1 hz HO0 HB0 HBB
        obtain ⟨j, hj, rfl, hown, c0, c1, hz, hbel⟩ := hrel
        have HB := Lib.hid hbel
        have HO := Lib.hid hown
        have hbs : b < wr.heap.size := hown.lt
        clear hbel hown
        by_cases hlt : j < K
        · have hlt2 : (j : Int) + 1 ≤ (K : Int) := by omega
          have HSJ := Lib.hid (fun w => iCycleOf t p ((j : Int) + 1) w)
          cases ho : cyA t p ((j : Int) + 1) with
          | some y =>
            obtain ⟨K2, i2⟩ := y
            obtain ⟨hnum, hcl⟩ := low_num ho
            have HD := Lib.hid (lowsD_some ho)
            rw [ho] at HSJ
            obtain ⟨x, hx⟩ : ∃ x, lowC t p ((j : Int) + 1) = x := ⟨_, rfl⟩
            rw [hx] at HD hnum hcl
            have HCL := Lib.hid hcl
            have HKEY := Lib.hid (keyOf_int_mk (P := Try.prog) Try.underlying3 (numB_wf hnum))
            clear ho hcl hx hnum
            go_wp2_with fail
            refine (HSJ.out _).mono ?_
            rintro e w2 ⟨v, rfl, hrow, hb2⟩
            obtain ⟨g2, n2, cap2, rfl, _, _, hn2, q⟩ := first_cell hrow HCL.out
            have d0 := kept_cell hb2 hz c0
            have d1 := kept_cell hb2 hz c1
            have hz2 := Nat.lt_of_lt_of_le hz hb2.size
            have HB2 := Lib.hid (HB.out.trans (hb2.mono (Nat.le_of_lt hz)))
            have HO2 := Lib.hid (ownsMapB_below HO.out hbs hb2)
            have hn2' : (n2 : Int) ≤ 9223372036854775807 := by unfold maxLen at hn2; omega
            clear hb2 c0 c1 hrow hn2
            go_wp2_with (first
              | (at_mapUpdate; refine wpList_mapUpdate_own _ rfl _ _ _ 48 rfl 3 4 keyedInt Try.underlying48 (plainElem (H := Unit) Try.prog 4) b j _ rfl HO2.out (by unfold maxLen; omega) _ _ _ rfl rfl HKEY.out _ [] (plainElem_bool Try.underlying4 true) ?_; intro w3 hown3 hgrow3; have e0 := hgrow3.cell d0 (fun e => by have := Option.some.inj e; dsimp only at this; omega); have e1 := hgrow3.cell d1 (fun e => by have := Option.some.inj e; dsimp only at this; omega); have HB3 := Lib.hid (HB2.out.grown hgrow3 HB2.out.size (fun k e => by have := Option.some.inj e; omega)); have HO3 := Lib.hid hown3; have hz3 := Nat.lt_of_lt_of_le hz2 hgrow3.size; clear d0 d1 hown3 hgrow3))
            exact ⟨⟨j + 1, hlt, by go_num, by rw [HD.out]; exact HO3.out, e0, e1, hz3, HB3.out⟩, by simp [RowKit.intOf]; omega⟩
          | none =>
            have HD := Lib.hid (lowsD_none ho)
            rw [ho] at HSJ
            have HSJ2 : Hid (∀ w, Calls Try.prog 10 #[.agg #[.int .i64 t, .int .i64 p], .int .i64 ((j : Int) + 1)] w (RetInts (cyL t p ((j : Int) + 1)) false w)) := HSJ
            clear ho HSJ
            go_wp2_with fail
            refine (HSJ2.out _).mono ?_
            rintro e w2 ⟨v, rfl, _, hb2⟩
            have d0 := kept_cell hb2 hz c0
            have d1 := kept_cell hb2 hz c1
            have hz2 := Nat.lt_of_lt_of_le hz hb2.size
            have HB2 := Lib.hid (HB.out.trans (hb2.mono (Nat.le_of_lt hz)))
            have HO2 := Lib.hid (ownsMapB_below HO.out hbs hb2)
            clear hb2 c0 c1
            go_wp2_with fail
            exact ⟨⟨j + 1, hlt, by go_num, by rw [HD.out]; exact ownsMap_grow HO2.out (Nat.le_succ _), d0, d1, hz2, HB2.out⟩, by simp [RowKit.intOf]; omega⟩
        · obtain rfl : j = K := by omega
          have hlt2 : ¬ ((j : Int) + 1 ≤ (j : Int)) := by omega
          go_wp2_with (go_at_call 34; refine (keysB_any _ _).mono ?_; rintro e w2 ⟨rfl, rfl⟩)
          refine (sortedB_lows t p j wr.heap.size b j _ (by omega) (by simp) (by go_simp) (HO.out.alloc _)).mono ?_
          rintro e w3 ⟨v, rfl, hrow, hb3⟩
          have HB3 : Hid (Below w.heap.size w w3) := Lib.hid (HB.out.trans ((((Below.refl _ wr).alloc (Nat.le_refl _) _).trans (hb3.mono (by simp))).mono (Nat.le_of_lt hz)))
          have HR3 : Hid (IntsAt w3 w.heap.size v (lowsL t p j)) := Lib.hid (ownsRow_base hrow (by simp; omega))
          clear hrow hb3
          go_wp2_with fail
          go_ret2
          rw [HA.out]
          exact ⟨v, rfl, by rw [HY.out]; exact HR3.out, HB3.out⟩

set_option maxRecDepth 100000 in
set_option maxHeartbeats 4000000 in
theorem sCyclesUpTo (t p k : Int) (w : World) :
    Calls Try.prog 18 #[.agg #[.int .i64 t, .int .i64 p], .int .i64 k] w (RetInts (cupL t p k) (askL t p k) w) := by
  have HM := Lib.hid (fun w => cyLimit_any t p k w)
  cases ha : askL t p k
  · have HA := Lib.hid ha
    have HY : Hid (cupL t p k = []) := Lib.hid (by rw [cupL, if_neg (by simp [ha])])
    rw [ha] at HM
    clear ha
    go_enter Try.func18, Try.ntmps18
    go_wp2_with fail
    refine (HM.out _).mono ?_
    rintro e w1 ⟨rfl, hb1⟩
    obtain ⟨c0, c1, hz, hb⟩ := map_block hb1
    clear hb1
    go_wp2_with fail
    go_ret2
    exact retI_none HY.out rfl hb
  · have hg : goodB t p = true := by simp only [askL, Bool.and_eq_true] at ha; exact ha.1
    have hi : inB k 1 300 = true := by simp only [askL, Bool.and_eq_true] at ha; exact ha.2
    have hk : 1 ≤ k ∧ k ≤ 300 := by simpa [inB] using hi
    rw [ha] at HM
    obtain ⟨K, rfl⟩ : ∃ K : Nat, k = K := ⟨k.toNat, by omega⟩
    have HY : Hid (cupL t p K = lowsL t p K) := Lib.hid (by rw [cupL, if_pos ha]; rfl)
    have HG := Lib.hid hg
    have hK : (K : Int) ≤ 300 := hk.2
    have HS := Lib.hid (fun n w => cyFind_any t p n w hg)
    clear ha hg hi hk
    go_enter Try.func18, Try.ntmps18
    go_wp2_with fail
    refine (HM.out _).mono ?_
    rintro e w1 ⟨rfl, hb1⟩
    obtain ⟨c0, c1, hz, hb⟩ := map_block hb1
    have HB0 := Lib.hid hb
    clear hb1 hb
    go_wp2_with fail
    go_loopw [6, 7] (fun x i wr => ∃ j : Nat, j ≤ K ∧ i = .int .i64 ((j : Int) + 1) ∧ UpAt wr w.heap.size x (lowsL t p j) ∧ wr.cell? ⟨w.heap.size, 0, none⟩ = some (.int .i64 t) ∧ wr.cell? ⟨w.heap.size, 1, none⟩ = some (.int .i64 p) ∧ w.heap.size < wr.heap.size ∧ Below w.heap.size w wr) (fun _ i _ => K + 1 - (RowKit.intOf i).toNat)
    case atStart => exact ⟨0, Nat.zero_le _, rfl, .inl ⟨rfl, rfl⟩, c0, c1, hz, HB0.out⟩
    case round =>
      clear c0 c1 hz
      obtain ⟨j, hj, rfl, hup, c0, c1, hz, hbel⟩ := hrel
      have HB := Lib.hid hbel
      have HU := Lib.hid hup
      have hll := lows_len t p j
      clear hbel hup
      by_cases hlt : j < K
      · have hlt2 : (j : Int) + 1 ≤ (K : Int) := by omega
        have HSJ := Lib.hid (fun w => HS.out ((j : Int) + 1) w)
        have hcg := cyA_good (n := (j : Int) + 1) HG.out
        rw [← hcg] at HSJ
        clear hcg
        cases ho : cyA t p ((j : Int) + 1) with
        | some y =>
          obtain ⟨K2, i2⟩ := y
          obtain ⟨_, hcl⟩ := low_num ho
          have HTH := Lib.hid (fun h => lows_there (t := t) (p := p) (k := j) h)
          have HNW := Lib.hid (fun h => lows_new (t := t) (p := p) (k := j) ho h)
          have HCY := Lib.hid (cyL_some ho)
          obtain ⟨x1, hx⟩ : ∃ x1, lowC t p ((j : Int) + 1) = x1 := ⟨_, rfl⟩
          rw [hx] at HTH HNW hcl
          have HCL := Lib.hid hcl
          obtain ⟨_, _, hF⟩ := cyA_some ho
          have hlt3 := hF.lt
          have hle := hF.le
          obtain ⟨L, hL⟩ : ∃ L, K2 - i2 = L + 1 := ⟨K2 - i2 - 1, by omega⟩
          have HT := Lib.hid (fun g cap w h1 h2 h3 h4 => cyTurn_path t p ((j : Int) + 1) K2 i2 L g cap w hF hL h1 h2 h3 h4)
          rw [ho] at HSJ
          have hi1 : (i2 : Int) ≤ (K2 : Int) := by omega
          clear hcl hx hF ho
          obtain ⟨xs, hxs⟩ : ∃ xs, lowsL t p j = xs := ⟨_, rfl⟩
          rw [hxs] at HU HTH HNW hll
          clear hxs
          go_wp2_with fail
          refine (HSJ.out _).mono ?_
          rintro e w2 (⟨K3, i3, v, ho, rfl, hrow, hb2⟩ | ⟨hn, _, _⟩)
          case inr => cases hn
          obtain ⟨rfl, rfl⟩ : K2 = K3 ∧ i2 = i3 := by simpa using ho
          obtain ⟨g, cap, rfl, hg1, hg2, hcap, hcm, hir⟩ := ints_row hrow (by rw [wayL_length]; omega)
          rw [wayL_length] at hcap ⊢
          have d0 := kept_cell hb2 hz c0
          have d1 := kept_cell hb2 hz c1
          have hz2 := Nat.lt_of_lt_of_le hz hb2.size
          have HB2 := Lib.hid (HB.out.trans (hb2.mono (Nat.le_of_lt hz)))
          have HU2 := Lib.hid (HU.out.kept hb2)
          have HIR := Lib.hid hir
          have HCAP := Lib.hid hcap
          have HCM := Lib.hid hcm
          have hi2 : (K2 : Int) ≤ (cap : Int) := by omega
          have hi3 : (i2 : Int) ≤ (cap : Int) := by omega
          have hi4 : (cap : Int) ≤ 9223372036854775807 := by unfold maxLen at hcm; omega
          have hci : ¬ (cap = i2) := by omega
          clear hb2 c0 c1 hrow hir ho
          go_wp2_with fail
          refine (HT.out g cap _ HIR.out hg2 HCAP.out HCM.out).mono ?_
          rintro e w3 ⟨v3, rfl, hr3, hb3⟩
          rw [← HCY.out] at hr3
          obtain ⟨g3, n3, cap3, rfl, _, _, hn3, q⟩ := first_cell hr3 HCL.out
          have e0 := kept_cell hb3 hz2 d0
          have e1 := kept_cell hb3 hz2 d1
          have hz3 := Nat.lt_of_lt_of_le hz2 hb3.size
          have HB3 := Lib.hid (HB2.out.trans (hb3.mono (Nat.le_of_lt hz2)))
          have HU3 := Lib.hid (HU2.out.kept hb3)
          have hn3' : (n3 : Int) ≤ 9223372036854775807 := by unfold maxLen at hn3; omega
          have HHAS := Lib.hid (l1Has_up x1 HU3.out (by omega))
          clear d0 d1 hb3 hr3 hi1 hi2 hi3 hi4 hci hL hcap hcm hlt3 hle hn3
          by_cases hm : x1 ∈ xs
          · have hdm : decide (x1 ∈ xs) = true := decide_eq_true hm
            rw [hdm] at HHAS
            have HN := Lib.hid (HTH.out hm)
            clear hm hdm
            go_wp2_with (go_at_call 30; refine HHAS.out.mono ?_; rintro e w' ⟨rfl, rfl⟩)
            exact ⟨⟨j + 1, hlt, by go_num, by rw [HN.out]; exact HU3.out, e0, e1, hz3, HB3.out⟩, by simp [RowKit.intOf]; omega⟩
          · have hdm : decide (x1 ∈ xs) = false := decide_eq_false hm
            rw [hdm] at HHAS
            have HN := Lib.hid (HNW.out hm)
            have HPUT := Lib.hid (l1Put_up x1 HU3.out (by omega) hm)
            clear hm hdm
            go_wp2_with (go_at_call 30; refine HHAS.out.mono ?_; rintro e w' ⟨rfl, rfl⟩)
            refine HPUT.out.mono ?_
            rintro e w4 ⟨v4, rfl, hr4, hb4⟩
            have f0 := kept_cell hb4 hz3 e0
            have f1 := kept_cell hb4 hz3 e1
            have hz4 := Nat.lt_of_lt_of_le hz3 hb4.size
            have HB4 := Lib.hid (HB3.out.trans (hb4.mono (Nat.le_of_lt hz3)))
            have HU4 : Hid (UpAt w4 w.heap.size v4 (putI x1 xs)) := Lib.hid (.inr ⟨putI_ne _ _, ownsRow_base hr4 (Nat.le_of_lt hz3)⟩)
            clear e0 e1 hb4 hr4
            go_wp2_with fail
            exact ⟨⟨j + 1, hlt, by go_num, by rw [HN.out]; exact HU4.out, f0, f1, hz4, HB4.out⟩, by simp [RowKit.intOf]; omega⟩
        | none =>
          have HN := Lib.hid (lows_none ho)
          rw [ho] at HSJ
          clear ho
          go_wp2_with fail
          refine (HSJ.out _).mono ?_
          rintro e w2 (⟨K3, i3, v, ho, _⟩ | ⟨_, rfl, hb2⟩)
          · cases ho
          have d0 := kept_cell hb2 hz c0
          have d1 := kept_cell hb2 hz c1
          have hz2 := Nat.lt_of_lt_of_le hz hb2.size
          have HB2 := Lib.hid (HB.out.trans (hb2.mono (Nat.le_of_lt hz)))
          have HU2 := Lib.hid (HU.out.kept hb2)
          clear hb2 c0 c1
          go_wp2_with fail
          exact ⟨⟨j + 1, hlt, by go_num, by rw [HN.out]; exact HU2.out, d0, d1, hz2, HB2.out⟩, by simp [RowKit.intOf]; omega⟩
      · obtain rfl : j = K := by omega
        have hlt2 : ¬ ((j : Int) + 1 ≤ (j : Int)) := by omega
        go_wp2_with fail
        go_ret2
        exact ⟨_, rfl, by rw [HY.out]; exact HU.out.isAt, HB.out⟩
end Go.Proofs.Ytlbiafeiedhhfaa
