/-
  'cyFind' of the model: the first number of a path that comes twice.
-/
import Derived.Test.YtponmblponfdaaaOrbN
import Derived.Test.YtponmblponfdaaaLeaf
import Derived.Test.YtponmblponfdaaaOwn
import Derived.Outline
namespace Go.Proofs.Ytponmblponfdaaa
open Go.RowKit
set_option linter.unusedVariables false

/-- The first k numbers of a way. -/
def wayL (f : Int → Int) (n : Int) (k : Nat) : List Int := (List.range k).map fun (i : Nat) => itr f i n
theorem wayL_succ (f : Int → Int) (n : Int) (k : Nat) : wayL f n (k + 1) = wayL f n k ++ [itr f k n] := by simp [wayL, List.range_succ]
theorem wayL_length (f : Int → Int) (n : Int) (k : Nat) : (wayL f n k).length = k := by simp [wayL]
theorem wayL_at {f : Int → Int} {n : Int} {k j : Nat} (h : j < k) : (wayL f n k).getD j 0 = itr f j n := by
  simp [wayL, List.getD_eq_getElem?_getD, h]
/-- What cyFind hands back. -/
def RetFind (f : Int → Int) (n : Int) (o : Option (Nat × Nat)) (w : World) (e : Ending) (w' : World) : Prop :=
  (∃ K i v, o = some (K, i) ∧ e = .returned (.tuple #[v, .int .i64 (i : Int), .bool true]) ∧ IntsAt w' w.heap.size v (wayL f n K) ∧ Below w.heap.size w w') ∨
  (o = none ∧ e = .returned (.tuple #[.slice none 0 0, .int .i64 0, .bool false]) ∧ Below w.heap.size w w')
theorem posOf_not {f : Int → Int} {n : Int} {k : Nat} (h : ∀ m, m < k → itr f m n ≠ itr f k n) : posOf f n k = none := by
  cases hp : posOf f n k with
  | none => rfl
  | some i => exact absurd (posOf_some hp).2 (h i (posOf_some hp).1)

set_option maxRecDepth 100000 in
set_option maxHeartbeats 8000000 in
theorem cyFind_any (t p n : Int) (w : World) (hg : goodB t p = true) :
    Calls Try.prog 63 #[.agg #[.int .i64 t, .int .i64 p], .int .i64 n] w (RetFind (nx t p) n (fnd (nx t p) n) w) := by
  have HG := Lib.hid hg
  obtain ⟨i0, hi, hi0, hi1, hi2⟩ := info_parts info3
  clear hg
  go_enter Try.func63, Try.ntmps63
  go_wp2_with fail
  go_loopw [1, 7, 8] (fun x v s wr => ∃ (k : Nat), k ≤ 1001 ∧ x = .int .i64 (itr (nx t p) k n) ∧ s = .int .i64 k ∧ wr.ownsRow (w.heap.size + 1) 3 1 v (wayL (nx t p) n k).length ((wayL (nx t p) n k).map (Value.int .i64)) ∧ fnd (nx t p) n = fndF (nx t p) n (1001 - k) k ∧ Diff (nx t p) n k ∧
      wr.cell? ⟨w.heap.size, 0, none⟩ = some (.int .i64 t) ∧ wr.cell? ⟨w.heap.size, 1, none⟩ = some (.int .i64 p) ∧ Below w.heap.size w wr ∧ w.heap.size < wr.heap.size) (fun _ _ s _ => 1001 - (intOf s).toNat)
  case atStart => exact ⟨0, by omega, rfl, rfl, World.ownsRow_nil _ _ _ _, rfl, diff_zero _ _, by go_simp, by go_simp, (Below.refl _ w).alloc (Nat.le_refl _) _, by simp⟩
  case round =>
    obtain ⟨k, hk, rfl, rfl, hown, hfn, hd, c0, c1, hbr, hz⟩ := hrel
    obtain ⟨v, hv⟩ : ∃ v, itr (nx t p) k n = v := ⟨_, rfl⟩
    have HO := Lib.hid hown
    have HF := Lib.hid hfn
    have HD := Lib.hid hd
    have HBR := Lib.hid hbr
    have HV := Lib.hid hv
    rw [hv]
    clear hown hfn hd hbr hv
    by_cases hk1 : k ≤ 1000
    · have hk2 : (k : Int) ≤ 1000 := by omega
      have HK2 := Lib.hid (show 1001 - k = (1001 - (k + 1)) + 1 by omega)
      have HIS := Lib.hid (fun w => mpIs_any v w)
      by_cases hnum : numB v = true
      · rw [hnum] at HIS
        have HNUM := Lib.hid hnum
        clear hnum
        rcases IntsAt.cases (w := wr) (B := w.heap.size + 1) (xs := wayL (nx t p) n k) HO.out with ⟨rfl, hnil⟩ | ⟨g, cap, rfl, hg1, hg2, hml, hrow⟩
        · have hk0 : k = 0 := by have := wayL_length (nx t p) n k; rw [hnil] at this; simpa using this.symm
          subst hk0
          have hpos : posOf (nx t p) n 0 = none := posOf_not (fun m hm => by omega)
          have HR : Hid (fnd (nx t p) n = fndF (nx t p) n (1001 - (0 + 1)) (0 + 1)) := Lib.hid (by rw [HF.out, HK2.out]; exact fndF_on (by rw [HV.out]; exact HNUM.out) hpos)
          have HD2 := Lib.hid (HD.out.succ hpos)
          clear hnil hpos
          go_wp2_with (go_at_call 76; refine (HIS.out _).mono ?_; rintro e w' ⟨rfl, rfl⟩)
          refine wp_loop_rounds 1 ?_
          rw [rounds_succ]
          go_wp2_with (at_builtin; refine wpList_append_own _ rfl _ _ 31 rfl (w.heap.size + 1) 3 i0 (.int .i64 0) 1 8 Try.underlying31 hi hi0 hi1 hi2 rfl (by decide) _ _ _ rfl (HO.out.alloc _) ⟨wr.heap.size, 0, none⟩ 1 1 [.int .i64 v] rfl rfl (fun j u hu => new_cell _ _ _ hu) (by simp [Value.oneCell']) (by rw [wayL_length]; unfold maxLen; omega) (by rw [wayL_length]; omega) (by simp; omega) ?_; intro v' w3 hown3 hgrow _; have hbg : Below (w.heap.size + 1) wr w3 := ((Below.refl (w.heap.size + 1) wr).alloc (by omega) _).grown hgrow (by simp; omega) (fun k e => (HO.out.lt k e).1); have d0 := (hbg.cell (p := ⟨w.heap.size, 0, none⟩) (Nat.lt_succ_self _)).trans c0; have d1 := (hbg.cell (p := ⟨w.heap.size, 1, none⟩) (Nat.lt_succ_self _)).trans c1; have hz3 : w.heap.size < w3.heap.size := Nat.lt_of_lt_of_le hz hbg.size; have HB3 := Lib.hid (HBR.out.trans (hbg.mono (Nat.le_succ _))); have HO3 := Lib.hid hown3; clear hown3 hgrow hbg c0 c1)
          refine (mpNext_any t p v _ HG.out HNUM.out).mono ?_
          rintro e w4 ⟨rfl, hb4⟩
          have e0 := kept_cell hb4 hz3 d0
          have e1 := kept_cell hb4 hz3 d1
          have hz4 := Nat.lt_of_lt_of_le hz3 hb4.size
          have HB4 := Lib.hid (HB3.out.trans (hb4.mono (Nat.le_of_lt hz3)))
          have HO4 := Lib.hid (ownsRow_kept HO3.out hb4)
          clear hb4 d0 d1
          go_wp2_with fail
          refine ⟨⟨0 + 1, by omega, by rw [itr_succ, HV.out], rfl, ?_, HR.out, HD2.out, e0, e1, HB4.out, hz4⟩, by simp [intOf]⟩
          rw [wayL_succ, HV.out, List.map_append, List.length_append]
          exact HO4.out
        · have HROW := Lib.hid hrow
          rw [wayL_length] at hml ⊢
          clear hrow
          go_wp2_with (go_at_call 76; refine (HIS.out _).mono ?_; rintro e w' ⟨rfl, rfl⟩)
          go_loop [20] (fun x => ∃ j : Nat, j ≤ k ∧ x = .int .i64 j ∧ ∀ m, m < j → itr (nx t p) m n ≠ itr (nx t p) k n) (fun x => k - (intOf x).toNat)
          case atStart => exact ⟨0, Nat.zero_le _, rfl, fun m hm => by omega⟩
          case round =>
            obtain ⟨j, hj, rfl, hno⟩ := hrel
            have HNO := Lib.hid hno
            clear hno
            by_cases hlt : j < k
            · have hlt2 : (j : Int) < (k : Int) := by omega
              have q := (HROW.out j (by rw [wayL_length]; exact hlt)).1
              rw [wayL_at hlt] at q
              obtain ⟨u, hu⟩ : ∃ u, itr (nx t p) j n = u := ⟨_, rfl⟩
              rw [hu] at q
              have HU := Lib.hid hu
              clear hu
              by_cases huv : u = v
              · have hpos : posOf (nx t p) n k = some j := posOf_of HD.out hlt (by rw [HU.out, HV.out, huv])
                have HR : Hid (fnd (nx t p) n = some (k, j)) := Lib.hid (by rw [HF.out, HK2.out]; exact fndF_hit (by rw [HV.out]; exact HNUM.out) hpos)
                have heq : (u == v) = true := by simpa using huv
                clear hpos huv
                go_wp2_with fail
                go_ret3
                refine .inl ⟨k, j, _, HR.out, rfl, ?_, HBR.out⟩
                have := ownsRow_base HO.out (B' := w.heap.size) (Nat.le_succ _)
                rw [wayL_length] at this
                unfold IntsAt
                rw [wayL_length]
                exact this
              · have heq : (u == v) = false := by simpa using huv
                have HUV := Lib.hid huv
                clear huv
                go_wp2_with fail
                exact ⟨⟨j + 1, hlt, by go_num, fun m hm => by
                  by_cases e : m = j
                  · subst e; rw [HU.out, HV.out]; exact HUV.out
                  · exact HNO.out m (by omega)⟩, by simp [intOf]; omega⟩
            · obtain rfl : j = k := by omega
              have hlt2 : ¬ ((j : Int) < (j : Int)) := by omega
              have hpos := posOf_not HNO.out
              have HR : Hid (fnd (nx t p) n = fndF (nx t p) n (1001 - (j + 1)) (j + 1)) := Lib.hid (by rw [HF.out, HK2.out]; exact fndF_on (by rw [HV.out]; exact HNUM.out) hpos)
              have HD2 := Lib.hid (HD.out.succ hpos)
              have HO1 := HO.out
              rw [wayL_length] at HO1
              have HO2 := Lib.hid HO1
              clear hpos HO1
              go_wp2_with (at_builtin; refine wpList_append_own _ rfl _ _ 31 rfl (w.heap.size + 1) 3 i0 (.int .i64 0) 1 8 Try.underlying31 hi hi0 hi1 hi2 rfl (by decide) _ _ _ rfl (HO2.out.alloc _) ⟨wr.heap.size, 0, none⟩ 1 1 [.int .i64 v] rfl rfl (fun j u hu => new_cell _ _ _ hu) (by simp [Value.oneCell']) (by unfold maxLen; omega) (by omega) (by simp; omega) ?_; intro v' w3 hown3 hgrow _; have hbg : Below (w.heap.size + 1) wr w3 := ((Below.refl (w.heap.size + 1) wr).alloc (by omega) _).grown hgrow (by simp; omega) (fun k e => (HO2.out.lt k e).1); have d0 := (hbg.cell (p := ⟨w.heap.size, 0, none⟩) (Nat.lt_succ_self _)).trans c0; have d1 := (hbg.cell (p := ⟨w.heap.size, 1, none⟩) (Nat.lt_succ_self _)).trans c1; have hz3 : w.heap.size < w3.heap.size := Nat.lt_of_lt_of_le hz hbg.size; have HB3 := Lib.hid (HBR.out.trans (hbg.mono (Nat.le_succ _))); have HO3 := Lib.hid hown3; clear hown3 hgrow hbg c0 c1)
              refine (mpNext_any t p v _ HG.out HNUM.out).mono ?_
              rintro e w4 ⟨rfl, hb4⟩
              have e0 := kept_cell hb4 hz3 d0
              have e1 := kept_cell hb4 hz3 d1
              have hz4 := Nat.lt_of_lt_of_le hz3 hb4.size
              have HB4 := Lib.hid (HB3.out.trans (hb4.mono (Nat.le_of_lt hz3)))
              have HO4 := Lib.hid (ownsRow_kept HO3.out hb4)
              clear hb4 d0 d1
              go_wp2_with fail
              refine ⟨⟨j + 1, by omega, by rw [itr_succ, HV.out], by go_num, ?_, HR.out, HD2.out, e0, e1, HB4.out, hz4⟩, by simp [intOf]; omega⟩
              rw [wayL_succ, HV.out, List.map_append, List.length_append, wayL_length]
              exact HO4.out
      · have hnum' : numB v = false := by simpa using hnum
        rw [hnum'] at HIS
        have HR : Hid (fnd (nx t p) n = none) := Lib.hid (by rw [HF.out]; exact fndF_out (by rw [HV.out]; exact hnum'))
        clear hnum hnum' HO
        go_wp2_with (go_at_call 76; refine (HIS.out _).mono ?_; rintro e w' ⟨rfl, rfl⟩)
        go_ret3
        exact .inr ⟨HR.out, rfl, HBR.out⟩
    · obtain rfl : k = 1001 := by omega
      have HR : Hid (fnd (nx t p) n = none) := Lib.hid HF.out
      clear HO
      go_wp2_with fail
      go_ret3
      exact .inr ⟨HR.out, rfl, HBR.out⟩
end Go.Proofs.Ytponmblponfdaaa
