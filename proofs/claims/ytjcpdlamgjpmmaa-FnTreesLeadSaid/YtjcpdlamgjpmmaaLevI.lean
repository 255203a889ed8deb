/-
  'levelsOf' of the program: the levels of a root as keys of maps, in a row.
-/
import Derived.Test.YtjcpdlamgjpmmaaSetW
import Derived.Test.YtjcpdlamgjpmmaaBef
import Derived.Test.YtjcpdlamgjpmmaaAskT
namespace Go.Proofs.Ytjcpdlamgjpmmaa
open Go.RowKit Go.Maps
set_option linter.unusedVariables false

theorem mem_fm {f : Int → List Int} {xs ys : List Int} (h : ∀ x, x ∈ xs ↔ x ∈ ys) (z : Int) : z ∈ xs.flatMap f ↔ z ∈ ys.flatMap f := by
  simp only [List.mem_flatMap, h]
theorem mem_fm_snoc {f : Int → List Int} {xs : List Int} {x z : Int} : z ∈ (xs ++ [x]).flatMap f ↔ z ∈ xs.flatMap f ∨ z ∈ f x := by simp
/-- What levelsOf hands back. -/
def RetLev (short : Bool) (t p r : Int) (K : Nat) (w : World) (e : Ending) (w' : World) : Prop :=
  Below w.heap.size w w' ∧ ((∃ xs v, levL short t p r K = some xs ∧ e = .returned (.tuple #[v, .bool true]) ∧ LevRow w' w.heap.size v (lvA short t p r K)) ∨ (levL short t p r K = none ∧ e = .returned (.tuple #[.slice none 0 0, .bool false])))
theorem info54 : (Try.prog.info? 69).map (fun i => (i.zero, i.size, i.bytes)) = some (some (.map none), 1, 8) := by kernel_rfl

set_option maxRecDepth 100000 in
set_option maxHeartbeats 4000000 in
theorem levelsOf_yes (short : Bool) (hok : bfOk short = true) (t p r : Int) (K : Nat) (w : World) (hg : goodB t p = true) (hr : numB r = true) (hK : K ≤ 20) :
    Calls Try.prog 51 #[.agg #[.int .i64 t, .int .i64 p], .int .i64 r, .int .i64 (K : Int), .func (.func (bfF short)) #[] #[]] w (RetLev short t p r K w) := by
  obtain ⟨i0, hi, hi0, hi1, hi2⟩ := info_parts info54
  have HM := Lib.hid (fun w => isMap_any t p w)
  rw [hg] at HM
  have HN := Lib.hid (fun w => isNumber_any r w)
  rw [hr] at HN
  have HL := Lib.hid (fun w => isLevel_any K w)
  rw [show inB K 0 20 = true by simp [inB]; omega] at HL
  have HKR := Lib.hid (keyOf_int_mk (P := Try.prog) Try.underlying3 (numB_wf hr))
  have HG := Lib.hid hg
  have HR := Lib.hid hr
  have hK2 : (K : Int) ≤ 20 := by omega
  obtain ⟨fb, hfb⟩ : ∃ fb, bfF short = fb := ⟨_, rfl⟩
  have HBF := Lib.hid (fun n w (hn : numB n = true) => bf_any short hok t p n w hg hn)
  have hef := bf_enters short
  rw [hfb] at HBF hef ⊢
  have hmm := @run_makeMap Try.prog
  clear hg hr hfb
  go_enter Try.func51, Try.ntmps51
  go_wp2_with fail
  refine (HM.out _).mono ?_
  rintro e w1 ⟨rfl, hb1⟩
  obtain ⟨c0, c1, hz, hb⟩ := map_block hb1
  have HB0 := Lib.hid hb
  have hown0 := World.ownsMap_made (H := Unit) w1 Try.prog 3 (plainElem (H := Unit) Try.prog 4)
  obtain ⟨wm, hrun, hownm, hgrm⟩ := hown0.update keyedInt Try.underlying69 (by unfold maxLen; omega) (key := .int .i64 r) (val := .bool true) HKR.out (plainElem_bool Try.underlying4 true)
  clear hb1 hb hown0
  go_wp2_with (first
    | (go_at_call 33; refine (HN.out _).mono ?_; rintro e w' ⟨rfl, rfl⟩)
    | (go_at_call 32; refine (HL.out _).mono ?_; rintro e w' ⟨rfl, rfl⟩))
  have hsm : w1.heap.size + 1 ≤ wm.heap.size := by have := hgrm.size; simpa using this
  have HBM := Lib.hid (((HB0.out.alloc (Nat.le_of_lt hz) (.map #[] 0)).grown hgrm (by simp; omega) (fun k e => by cases e; omega)).alloc (show w.heap.size ≤ wm.heap.size by omega) (.cells #[.map (some w1.heap.size)] 69))
  have d0 : (wm.alloc (.cells #[.map (some w1.heap.size)] 69)).cell? ⟨w.heap.size, 0, none⟩ = some (.int .i64 t) :=
    (((((Below.refl (w.heap.size + 1) w1).alloc hz (.map #[] 0)).grown hgrm (by simp; omega) (fun k e => by cases e; omega)).alloc (show w.heap.size + 1 ≤ wm.heap.size by omega) _).cell (p := ⟨w.heap.size, 0, none⟩) (Nat.lt_succ_self _)).trans c0
  have d1 : (wm.alloc (.cells #[.map (some w1.heap.size)] 69)).cell? ⟨w.heap.size, 1, none⟩ = some (.int .i64 p) :=
    (((((Below.refl (w.heap.size + 1) w1).alloc hz (.map #[] 0)).grown hgrm (by simp; omega) (fun k e => by cases e; omega)).alloc (show w.heap.size + 1 ≤ wm.heap.size by omega) _).cell (p := ⟨w.heap.size, 1, none⟩) (Nat.lt_succ_self _)).trans c1
  have hset : SetIn (wm.alloc (.cells #[.map (some w1.heap.size)] 69)) w1.heap.size [r] := ⟨1, _, hownm.alloc _, by omega, fun x => by rw [has_put_iff isMap_empty]; simp [has_eq], allTrue_empty.put isMap_empty r⟩
  have hlev : LevRow (wm.alloc (.cells #[.map (some w1.heap.size)] 69)) (w.heap.size + 1) (.slice (some ⟨wm.heap.size, 0, none⟩) 1 1) (lvA short t p r 0) := by
    refine ⟨[w1.heap.size], ?_, rfl, fun k b hk => ?_⟩
    · have := World.ownsRow_lit (base := w.heap.size + 1) (e := 69) (size := 1) wm #[Value.map (some w1.heap.size)] 1 (by omega) (by unfold maxLen; omega) (by simp)
      rw [lvA_length]
      exact this
    · cases k with
      | zero => cases hk; exact hset
      | succ k => cases hk
  have HLEV := Lib.hid hlev
  clear hlev hset hrun hownm hgrm c0 c1
  go_loopw [10, 34] (fun v i wr => ∃ j : Nat, j ≤ K ∧ i = .int .i64 j ∧ (∃ xs, levL short t p r j = some xs) ∧ LevRow wr (w.heap.size + 1) v (lvA short t p r j) ∧ wr.cell? ⟨w.heap.size, 0, none⟩ = some (.int .i64 t) ∧ wr.cell? ⟨w.heap.size, 1, none⟩ = some (.int .i64 p) ∧ w.heap.size < wr.heap.size ∧ Below w.heap.size w wr) (fun _ i _ => K - (RowKit.intOf i).toNat)
  case atStart => exact ⟨0, Nat.zero_le _, rfl, ⟨_, rfl⟩, HLEV.out, d0, d1, by simp; omega, HBM.out⟩
  case round =>
    clear d0 d1 hz hsm
    obtain ⟨j, hj, rfl, ⟨xs, hxs⟩, hlev, c0, c1, hz, hbel⟩ := hrel
    have HB := Lib.hid hbel
    clear hbel
    by_cases hlt : j < K
    · have hlt2 : (j : Int) < (K : Int) := by omega
      obtain ⟨bs, hrow, hbl, hbs⟩ := hlev
      rw [lvA_length] at hrow hbl
      obtain ⟨g, cap, rfl, hgB, hgl, hcap, hcm, hcells⟩ := row_cells hrow (Nat.succ_pos _)
      have hbk : bs[j]? = some (bs[j]'(by omega)) := List.getElem?_eq_getElem _
      obtain ⟨b, hb⟩ : ∃ b, bs[j]'(by omega) = b := ⟨_, rfl⟩
      rw [hb] at hbk
      have q := hcells j _ (by rw [List.getElem?_map, hbk]; rfl)
      obtain ⟨n, D, hown, hn, hD, _⟩ := hbs j b hbk
      rw [lvA_at _ _ _ _ (Nat.le_refl _), hxs, Option.getD_some] at hD
      have hnd := nodup_lt (levL_lt HG.out hxs)
      have hsz := (set_size hown hD hnd).1
      have hxl := levL_len hxs
      have hbl2 : b < wr.heap.size := hown.lt
      have HNUM := Lib.hid (fun x (h : x ∈ xs) => levL_num HG.out HR.out hxs h)
      have HXS := Lib.hid hxs
      have HD := Lib.hid hD
      have HOWN := Lib.hid hown
      have HROW := Lib.hid hrow
      have HBS := Lib.hid hbs
      have HBL := Lib.hid hbl
      have HND := Lib.hid hnd
      have hcap2 : (j : Int) + 1 ≤ (cap : Int) := by omega
      have hcm2 : (cap : Int) ≤ 9223372036854775807 := by unfold maxLen at hcm; omega
      obtain ⟨wo, rfl⟩ : ∃ wo : World, wo = wr := ⟨_, rfl⟩
      have HO0 := Lib.hid (World.ownsMap_made (H := Unit) wo Try.prog 3 (plainElem (H := Unit) Try.prog 4))
      clear hxs hD hown hrow hbs hbl hnd hcells hbk hb hcm
      go_wp2_with (at_range; refine wpList_range_own _ rfl _ 69 rfl 3 4 keyedInt Try.underlying69 (plainElem (H := Unit) Try.prog 4) b n _ rfl (HOWN.out.alloc _) ?_; intro w0 hrg0 hg0 hs0)
      have es : (wo.alloc (Obj.map #[] 0)).heap.size = wo.heap.size + 1 := by simp
      rw [es] at hrg0 hs0
      have hbe0 : Below wo.heap.size wo w0 := ((Below.refl _ wo).alloc (Nat.le_refl _) _).grown hg0 (by simp) (fun k e => by cases e)
      have hO1 : w0.ownsMap Try.prog 3 (plainElem (H := Unit) Try.prog 4) wo.heap.size 0 (.map []) := HO0.out.kept hg0 (by simp)
      have hstart : CollectedI D (has D) [] := CollectedI.start D
      have HRG0 := Lib.hid hrg0
      have HBE0 := Lib.hid hbe0
      have HO1 := Lib.hid hO1
      have HCO0 := Lib.hid hstart
      obtain ⟨S, hS⟩ : ∃ S, wo.heap.size = S := ⟨_, rfl⟩
      rw [hS] at HRG0 HBE0 HO1 hs0 hz hgl hbl2 ⊢
      have HS := Lib.hid hS
      have hsD : size D ≤ 2000 := by omega
      have hs02 : S + 2 ≤ w0.heap.size := by omega
      clear es hrg0 hg0 hbe0 hO1 hstart HO0 hS hs0 q
      go_loopw [13] (fun _ wr => ∃ (left : Lit → Bool) (cnt : Nat) (ss : List Int) (n2 : Nat) (D2 : DataW Unit), wr.ranges Try.prog 3 (plainElem (H := Unit) Try.prog 4) b (S + 1) n D left cnt ∧ CollectedI D left ss ∧ wr.ownsMap Try.prog 3 (plainElem (H := Unit) Try.prog 4) S n2 D2 ∧ n2 ≤ 2 * ss.length ∧ ss.length + cnt ≤ size D ∧ (∀ z : Int, has D2 (.int .i64 z) = true ↔ z ∈ ss.flatMap (befB short t p)) ∧ AllTrue D2 ∧ Below S wo wr ∧ S + 2 ≤ wr.heap.size) (fun _ wr => wr.rangeLeft b (S + 1))
      case atStart => exact ⟨_, _, [], 0, _, HRG0.out, HCO0.out, HO1.out, Nat.le_refl _, by simp, by simp [has_eq], allTrue_empty, HBE0.out, hs02⟩
      case round =>
        clear hs02
        obtain ⟨left, cnt, ss, n2, D2, hrg, hco, hown2, hn2, hcnt, hhas, hat2, hbel, hs2⟩ := hrel
        have HAT2 := Lib.hid hat2
        clear hat2
        have HRG := Lib.hid hrg
        have HCO := Lib.hid hco
        have HO2 := Lib.hid hown2
        have HHAS := Lib.hid hhas
        have HBE := Lib.hid hbel
        have hssl : ss.length ≤ 2000 := by omega
        clear hrg hco hown2 hhas hbel
        go_wp2_with (first
          | (at_next; refine wpList_next_set _ rfl _ rfl b (S + 1) n _ _ _ rfl HRG.out ?_ ?_))
        · -- NOTHING IS LEFT
          intro hl0
          have hmem : ∀ z, z ∈ ss ↔ z ∈ xs := fun z => by rw [HCO.out.2 z, hl0.out]; simp [HD.out z]
          have hfm : ∀ z : Int, has D2 (.int .i64 z) = true ↔ z ∈ xs.flatMap (befB short t p) := fun z => by rw [HHAS.out z, mem_fm hmem]
          have hsz2 := (set_size HO2.out hfm (fm_nodup HG.out HND.out)).1
          have hml := fm_len short t p xs
          have hls := levL_succ HXS.out
          have hb2 : Below wo.heap.size wo wr := by have := HBE.out; rw [← HS.out] at this; exact this
          have HROW2 := Lib.hid (ownsRow_kept HROW.out hb2)
          have HFM := Lib.hid hfm
          obtain ⟨M, hM⟩ : ∃ M, (xs.flatMap (befB short t p)).length = M := ⟨_, rfl⟩
          rw [hM] at hsz2 hml hls
          have HLS := Lib.hid hls
          have hbw := HB.out.trans (HBE.out.mono (Nat.le_of_lt hz))
          have HBW := Lib.hid hbw
          have hMM : (M : Int) ≤ 4000 := by omega
          clear hmem hfm hls hb2 hM hbw hl0
          by_cases hM2 : 2000 < M
          · have hgt : 2000 < (M : Int) := by omega
            have HN : Hid (levL short t p r K = none) := Lib.hid (levL_less (j := j + 1) hlt (by rw [HLS.out, if_neg (by omega)]))
            go_wp2_with (first
              | (at_len; refine wpList_len_own _ rfl _ 69 rfl 3 4 Try.underlying69 (plainElem (H := Unit) Try.prog 4) S n2 D2 rfl HO2.out ?_))
            go_ret2
            exact ⟨HBW.out, .inr ⟨HN.out, rfl⟩⟩
          · have hgt : ¬ (2000 < (M : Int)) := by omega
            have HLK : Hid (levL short t p r (j + 1) = some (srtI (xs.flatMap (befB short t p)))) := Lib.hid (by rw [HLS.out, if_pos (by omega)])
            have hj3 : j + 1 + 1 ≤ maxLen := by unfold maxLen; omega
            have hbase : w.heap.size + 1 ≤ wr.heap.size := by omega
            go_wp2_with (first
              | (at_len; refine wpList_len_own _ rfl _ 69 rfl 3 4 Try.underlying69 (plainElem (H := Unit) Try.prog 4) S n2 D2 rfl HO2.out ?_)
              | (at_builtin; refine wpList_append_own _ rfl _ _ 66 rfl (w.heap.size + 1) 69 i0 (.map none) 1 8 Try.underlying66 hi hi0 hi1 hi2 rfl (by decide) _ _ _ rfl (HROW2.out.alloc _) ⟨wr.heap.size, 0, none⟩ 1 1 [.map (some S)] rfl rfl (fun j u hu => new_cell _ _ _ hu) (by simp [Value.oneCell']) hj3 (by omega) (by simp; omega) ?_; intro v5 w5 hown5 hgrow5 _))
            have hgrow6 : (wr.alloc (.cells #[.map (some S)] 69)).grownBy w5 (some g) := hgrow5
            have hbg : Below (w.heap.size + 1) wo w5 := ((HBE.out.mono hz).alloc hbase (.cells #[.map (some S)] 69)).grown hgrow6 (by simp; omega) (fun k e => by cases e; omega)
            refine ⟨⟨j + 1, hlt, by go_num, ⟨_, HLK.out⟩, ?_, (hbg.cell (p := ⟨w.heap.size, 0, none⟩) (Nat.lt_succ_self _)).trans c0, (hbg.cell (p := ⟨w.heap.size, 1, none⟩) (Nat.lt_succ_self _)).trans c1, by have := hgrow5.size; simp at this; omega, HB.out.trans (hbg.mono (Nat.le_succ _))⟩, by simp [RowKit.intOf]; omega⟩
            rw [lvA_succ, HLK.out, Option.getD_some]
            have hb3 : Below S wo (wr.alloc (.cells #[.map (some S)] 69)) := HBE.out.alloc (by omega) _
            refine LevRow.snoc (bs := bs) (by rw [lvA_length]; exact hown5) (by rw [lvA_length]; exact HBL.out) (fun k c hk => ?_) ⟨n2, D2, (HO2.out.alloc _).kept hgrow6 (by simp; omega), by omega, fun x => by rw [HFM.out x, mem_srt], HAT2.out⟩
            exact ((HBS.out k c hk).under hb3 (by have := (HBS.out k c hk).lt; have := HS.out; omega)).grown (HROW2.out.alloc _) hgrow5
        · -- AN ENTRY HAS COME
          intro x vv w2 cnt1 hmore
          obtain ⟨hhx, hstep, hrg1, hlt1, hg1, hs1, hen⟩ := hmore.out
          have hxm : x ∈ xs := (HD.out x).1 hhx
          have hnx := HNUM.out x hxm
          have hco1 := hstep ss HCO.out
          have HCO1 := Lib.hid hco1
          have HRG1 := Lib.hid hrg1
          have hbe1 : Below S wo w2 := HBE.out.grown hg1 (by omega) (fun k e => by cases e; omega)
          have hO3 : w2.ownsMap Try.prog 3 (plainElem (H := Unit) Try.prog 4) S n2 D2 := HO2.out.kept hg1 (by simp)
          have e0 : w2.cell? ⟨w.heap.size, 0, none⟩ = some (.int .i64 t) := (hbe1.cell (p := ⟨w.heap.size, 0, none⟩) hz).trans c0
          have e1 : w2.cell? ⟨w.heap.size, 1, none⟩ = some (.int .i64 p) := (hbe1.cell (p := ⟨w.heap.size, 1, none⟩) hz).trans c1
          have HBE1 := Lib.hid hbe1
          have HO3 := Lib.hid hO3
          have hs3 : S + 2 ≤ w2.heap.size := by omega
          have HNX := Lib.hid hnx
          have HKX := Lib.hid (fun v (h : numB v = true) => keyOf_int_mk (P := Try.prog) Try.underlying3 (numB_wf h))
          have HMB := Lib.hid (fun z => mem_bef (short := short) (t := t) (p := p) (n := x) (x := z) HG.out)
          have HLT1 := Lib.hid hlt1
          obtain ⟨nb1, nb2⟩ := numB_iff.1 hnx
          clear hmore hhx hstep hrg1 hlt1 hg1 hs1 hxm hco1 hbe1 hO3 hnx
          go_wp2_with fail
          refine (HBF.out x _ HNX.out).mono ?_
          rintro e w3 ⟨rfl, hb3⟩
          obtain ⟨o, ho⟩ : ∃ o, oddP t p (arB short x) = o := ⟨_, rfl⟩
          rw [ho] at HMB ⊢
          have hRG2 := ranges_below HRG1.out hb3 (by omega) (by omega)
          have hO4 := ownsMap_under HO3.out hb3 (by omega)
          have hBE2 := HBE1.out.trans (hb3.mono (by omega))
          have HRG2 := Lib.hid hRG2
          have HO4 := Lib.hid hO4
          have HBE2 := Lib.hid hBE2
          have hs4 := Nat.le_trans hs3 hb3.size
          obtain ⟨o1, o2⟩ : -9223372036854775808 ≤ o ∧ o ≤ 9223372036854775807 := by
            rw [← ho]
            have := oddP_bound (n := arB short x) HG.out (by unfold arB; split <;> omega)
            omega
          clear hRG2 hO4 hBE2 hb3 ho e0 e1 hen hs3
          go_wp2_with fail
          go_loopw [51] (fun i wr => ∃ j2 : Nat, j2 ≤ 2 ∧ i = .int .i64 j2 ∧ ∃ (n3 : Nat) (D3 : DataW Unit), wr.ranges Try.prog 3 (plainElem (H := Unit) Try.prog 4) b (S + 1) n D (fun z => left z && !z.sameKey (.int .i64 x)) cnt1 ∧ wr.ownsMap Try.prog 3 (plainElem (H := Unit) Try.prog 4) S n3 D3 ∧ n3 ≤ 2 * ss.length + j2 ∧ (∀ z : Int, has D3 (.int .i64 z) = true ↔ z ∈ ss.flatMap (befB short t p) ∨ (numB z = true ∧ z ∈ [2 * x, o].take j2)) ∧ AllTrue D3 ∧ Below S wo wr ∧ S + 2 ≤ wr.heap.size) (fun i _ => 2 - (RowKit.intOf i).toNat)
          case atStart => exact ⟨0, Nat.zero_le _, rfl, n2, D2, HRG2.out, HO4.out, hn2, fun z => by rw [HHAS.out]; simp, HAT2.out, HBE2.out, hs4⟩
          case round =>
            clear hs4 HRG2 HO4 HBE2
            obtain ⟨j2, hj2, rfl, n3, D3, hrg3, hown3, hn3, hhas3, hat3, hbe3, hs4⟩ := hrel
            have HAT3 := Lib.hid hat3
            clear hat3
            have HRG3 := Lib.hid hrg3
            have HO4 := Lib.hid hown3
            have HBE3 := Lib.hid hbe3
            have HHAS3 := Lib.hid hhas3
            clear hrg3 hown3 hbe3 hhas3
            have hp0 := index_pair0 (2 * x) o
            have hp1 := index_pair1 (2 * x) o
            rcases (by omega : j2 = 0 ∨ j2 = 1 ∨ j2 = 2) with rfl | rfl | rfl
            · skip
              cases hv : numB (2 * x)
              · have HIV : Hid (∀ w, Calls Try.prog 33 #[.int .i64 (2 * x)] w fun e w' => e = .returned (.bool false) ∧ w = w') := Lib.hid fun w => by
                  have := isNumber_any (2 * x) w
                  rwa [hv] at this
                have HV := Lib.hid hv
                clear hv
                go_wp2_with (go_at_call 33; refine (HIV.out _).mono ?_; rintro e w' ⟨rfl, rfl⟩)
                go_roundw
                case measure => simp [RowKit.intOf]
                case rel =>
                  refine ⟨1, by omega, rfl, n3, D3, HRG3.out, HO4.out, by omega, ?_, HAT3.out, HBE3.out, hs4⟩
                  intro z
                  rw [HHAS3.out z]
                  refine or_congr_right (and_congr_right fun hz => ?_)
                  have : z ≠ (2 * x) := fun e => by rw [e, HV.out] at hz; cases hz
                  simp [this]
              · have HIV : Hid (∀ w, Calls Try.prog 33 #[.int .i64 (2 * x)] w fun e w' => e = .returned (.bool true) ∧ w = w') := Lib.hid fun w => by
                  have := isNumber_any (2 * x) w
                  rwa [hv] at this
                have HV := Lib.hid hv
                have HKEY := Lib.hid (HKX.out (2 * x) hv)
                clear hv
                go_wp2_with (first
                  | (go_at_call 33; refine (HIV.out _).mono ?_; rintro e w' ⟨rfl, rfl⟩)
                  | (at_mapUpdate; refine wpList_mapUpdate_own _ rfl _ _ _ 69 rfl 3 4 keyedInt Try.underlying69 (plainElem (H := Unit) Try.prog 4) S n3 _ rfl HO4.out (by unfold maxLen; omega) _ _ _ rfl rfl HKEY.out _ [] (plainElem_bool Try.underlying4 true) ?_; intro w5 hown5 hgrow5))
                go_roundw
                case measure => simp [RowKit.intOf]
                case rel =>
                  refine ⟨1, by omega, rfl, n3 + 1, _, HRG3.out.kept hgrow5 (by simp; omega) (by simp), hown5, by omega, ?_, HAT3.out.put HO4.out.isMap _, HBE3.out.grown hgrow5 (by omega) (fun k e => by cases e; exact Nat.le_refl _), Nat.le_trans hs4 hgrow5.size⟩
                  intro z
                  rw [has_put_iff HO4.out.isMap, HHAS3.out z]
                  by_cases hz : z = (2 * x)
                  · subst hz
                    simp [HV.out]
                  · simp [hz]
            · skip
              cases hv : numB o
              · have HIV : Hid (∀ w, Calls Try.prog 33 #[.int .i64 o] w fun e w' => e = .returned (.bool false) ∧ w = w') := Lib.hid fun w => by
                  have := isNumber_any o w
                  rwa [hv] at this
                have HV := Lib.hid hv
                clear hv
                go_wp2_with (go_at_call 33; refine (HIV.out _).mono ?_; rintro e w' ⟨rfl, rfl⟩)
                go_roundw
                case measure => simp [RowKit.intOf]
                case rel =>
                  refine ⟨2, by omega, rfl, n3, D3, HRG3.out, HO4.out, by omega, ?_, HAT3.out, HBE3.out, hs4⟩
                  intro z
                  rw [HHAS3.out z]
                  refine or_congr_right (and_congr_right fun hz => ?_)
                  have : z ≠ o := fun e => by rw [e, HV.out] at hz; cases hz
                  simp [this]
              · have HIV : Hid (∀ w, Calls Try.prog 33 #[.int .i64 o] w fun e w' => e = .returned (.bool true) ∧ w = w') := Lib.hid fun w => by
                  have := isNumber_any o w
                  rwa [hv] at this
                have HV := Lib.hid hv
                have HKEY := Lib.hid (HKX.out o hv)
                clear hv
                go_wp2_with (first
                  | (go_at_call 33; refine (HIV.out _).mono ?_; rintro e w' ⟨rfl, rfl⟩)
                  | (at_mapUpdate; refine wpList_mapUpdate_own _ rfl _ _ _ 69 rfl 3 4 keyedInt Try.underlying69 (plainElem (H := Unit) Try.prog 4) S n3 _ rfl HO4.out (by unfold maxLen; omega) _ _ _ rfl rfl HKEY.out _ [] (plainElem_bool Try.underlying4 true) ?_; intro w5 hown5 hgrow5))
                go_roundw
                case measure => simp [RowKit.intOf]
                case rel =>
                  refine ⟨2, by omega, rfl, n3 + 1, _, HRG3.out.kept hgrow5 (by simp; omega) (by simp), hown5, by omega, ?_, HAT3.out.put HO4.out.isMap _, HBE3.out.grown hgrow5 (by omega) (fun k e => by cases e; exact Nat.le_refl _), Nat.le_trans hs4 hgrow5.size⟩
                  intro z
                  rw [has_put_iff HO4.out.isMap, HHAS3.out z]
                  by_cases hz : z = o
                  · subst hz
                    simp [HV.out]
                  · simp [hz]
            · go_wp2_with fail
              go_roundw
              case rel =>
                refine ⟨_, cnt1, ss ++ [x], n3, D3, HRG3.out, HCO1.out, HO4.out, by simp; omega, by have := HLT1.out; simp; omega, ?_, HAT3.out, HBE3.out, hs4⟩
                intro z
                rw [HHAS3.out z, mem_fm_snoc, HMB.out z]
                simp
              case measure => rw [HRG3.out.left_eq, HRG.out.left_eq]; exact HLT1.out
    · obtain rfl : j = K := by omega
      have hlt2 : ¬ ((j : Int) < (j : Int)) := by omega
      have HLV := Lib.hid (LevRow.base hlev (Nat.le_succ w.heap.size))
      have HXS := Lib.hid hxs
      clear hlev hxs
      go_wp2_with fail
      go_ret2
      exact ⟨HB.out, .inl ⟨xs, _, HXS.out, rfl, HLV.out⟩⟩
end Go.Proofs.Ytjcpdlamgjpmmaa
