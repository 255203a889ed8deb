/-
  'WordOfCycle' of the model.
-/
import Derived.Test.YtlbiafeiedhhfaaDoorWocM
import Derived.Test.YtlbiafeiedhhfaaDoorCycS
import Derived.Test.YtlbiafeiedhhfaaDoorWordJ
namespace Go.Proofs.YtlbiafeiedhhfaaDoor
open Go.RowKit
set_option linter.unusedVariables false

/-- How many short steps there are from the least odd number until it comes again. -/
def wocE (t p n : Int) : Nat := (cyL t p n).length - (oddsC (cyL t p n)).length
def wocB (t p n : Int) : Bool := (cyA t p n).isSome && decide (wocE t p n ≤ 10)
/-- What WordOfCycle comes to. -/
def wocS (t p n : Int) : ByteArray := if wocB t p n = true then wby (wrd t p (lowO (cyL t p n)) (wocE t p n)) else wby []
theorem woc_none {t p n : Int} (h : cyA t p n = none) : wocB t p n = false ∧ wocS t p n = wby [] := by
  have : wocB t p n = false := by rw [wocB, h]; rfl
  exact ⟨this, by rw [wocS, if_neg (by simp [this])]⟩
theorem woc_yes {t p n : Int} {x : Nat × Nat} (h : cyA t p n = some x) (hE : wocE t p n ≤ 10) : wocB t p n = true ∧ wocS t p n = wby (wrd t p (lowO (cyL t p n)) (wocE t p n)) := by
  have : wocB t p n = true := by rw [wocB, h]; simpa using hE
  exact ⟨this, by rw [wocS, if_pos this]⟩
theorem woc_no {t p n : Int} {x : Nat × Nat} (h : cyA t p n = some x) (hE : ¬ wocE t p n ≤ 10) : wocB t p n = false ∧ wocS t p n = wby [] := by
  have : wocB t p n = false := by rw [wocB, h]; simpa using hE
  exact ⟨this, by rw [wocS, if_neg (by simp [this])]⟩

/-- What the first loop has found in the first j numbers. -/
def lowAt (C : List Int) (j : Nat) : Int := (C.take j).foldl stepO (C.headD 0)
theorem lowAt_succ {C : List Int} {j : Nat} (h : j < C.length) : lowAt C (j + 1) = stepO (lowAt C j) (C.getD j 0) := by
  unfold lowAt
  rw [List.take_add_one, List.getElem?_eq_getElem h, Option.toList_some, List.foldl_append, List.getD_eq_getElem?_getD, List.getElem?_eq_getElem h]
  rfl
theorem lowAt_fin (C : List Int) : lowAt C C.length = lowO C := by rw [lowAt, List.take_length]; rfl
theorem headD_getD (C : List Int) : C.headD 0 = C.getD 0 0 := by cases C <;> rfl
theorem step_keep {a x : Int} (h : x % 2 = 0 ∨ (¬ a % 2 = 0 ∧ ¬ x < a)) : stepO a x = a := by
  unfold stepO
  rw [if_neg]
  rintro ⟨h1, h2⟩
  omega
theorem step_take {a x : Int} (h : ¬ x % 2 = 0) (h' : a % 2 = 0 ∨ x < a) : stepO a x = x := by
  unfold stepO
  rw [if_pos ⟨h, h'⟩]
def strSz : Value → Nat
  | .string s => s.size
  | _ => 0
theorem oddB_odd {x : Int} (h : oddB x = true) : ¬ x % 2 = 0 := by simpa [oddB] using h
theorem oddB_even {x : Int} (h : oddB x = false) : x % 2 = 0 := by simpa [oddB] using h
theorem tm_even {x : Int} (h : oddB x = false) : x.tmod 2 = 0 := by have := even_tmod x; rw [h] at this; simpa using this
theorem tm_odd {x : Int} (h : oddB x = true) : ¬ x.tmod 2 = 0 := by have := even_tmod x; rw [h] at this; simpa using this
theorem wby_size (l : List UInt8) : (wby l).size = l.length := by show l.toArray.size = _; simp

set_option maxRecDepth 100000 in
set_option maxHeartbeats 8000000 in
theorem sWordOfCycle (t p n : Int) (w : World) :
    Calls Tryd.prog 4 #[.agg #[.int .i64 t, .int .i64 p], .int .i64 n] w fun e w' => e = .returned (.tuple #[.string (wocS t p n), .bool (wocB t p n)]) ∧ Below w.heap.size w w' := by
  have HS := Lib.hid (fun w => sCycleOf t p n w)
  cases ho : cyA t p n with
  | none =>
    have HB := Lib.hid (woc_none ho).1
    have HY := Lib.hid (woc_none ho).2
    have HS2 : Hid (∀ w, Calls Tryd.prog 7 #[.agg #[.int .i64 t, .int .i64 p], .int .i64 n] w (RetInts (cyL t p n) false w)) := by rw [ho] at HS; exact HS
    clear ho HS
    go_enter Tryd.func4, Tryd.ntmps4
    go_wp2_with fail
    refine (HS2.out _).mono ?_
    rintro e w1 ⟨v, rfl, _, hb1⟩
    obtain ⟨c0, c1, hz, hb⟩ := map_block hb1
    clear hb1
    go_wp2_with fail
    go_ret2
    exact ⟨ret_sb (by rw [HY.out]; rfl) HB.out.symm, hb⟩
  | some y =>
    obtain ⟨K, i⟩ := y
    obtain ⟨hwoc, _⟩ := woc_of ho
    obtain ⟨hg, _, hF⟩ := cyA_some ho
    have hlen1 : 0 < (cyL t p n).length := by rw [cyL_some ho, cycT_length]; have := hF.lt; omega
    have hle := cyL_len t p n
    have HS2 : Hid (∀ w, Calls Tryd.prog 7 #[.agg #[.int .i64 t, .int .i64 p], .int .i64 n] w (RetInts (cyL t p n) true w)) := by rw [ho] at HS; exact HS
    have HYES := Lib.hid (fun h => woc_yes ho h)
    have HNO := Lib.hid (fun h => woc_no ho h)
    have hEE : wocE t p n = (cyL t p n).length - (oddsC (cyL t p n)).length := rfl
    rw [← hEE] at hwoc
    have HSP := Lib.hid (fun w x hx => mpShort_any t p x w hg hx)
    clear ho HS hEE hg hF
    obtain ⟨C, hC⟩ : ∃ C, cyL t p n = C := ⟨_, rfl⟩
    obtain ⟨E, hE⟩ : ∃ E, wocE t p n = E := ⟨_, rfl⟩
    rw [hC] at hwoc hlen1 hle HS2 HYES
    rw [hE] at hwoc HYES HNO
    have HLT := Lib.hid (fun j (hj : j < C.length) => lowAt_succ hj)
    have HFIN := Lib.hid (lowAt_fin C)
    have HHD := Lib.hid (show lowAt C 0 = C.getD 0 0 from headD_getD C)
    obtain ⟨r, hr⟩ : ∃ r, lowO C = r := ⟨_, rfl⟩
    rw [hr] at hwoc HYES HFIN
    have HW := Lib.hid hwoc
    clear hwoc hr hE
    obtain ⟨L, hL⟩ : ∃ L, C.length = L := ⟨_, rfl⟩
    have hL0 : (0 : Int) < (L : Int) := by omega
    have hL1 : (L : Int) ≤ 1000 := by omega
    rw [hL] at HLT HFIN
    have HL := Lib.hid hL
    clear hlen1 hle hC
    go_enter Tryd.func4, Tryd.ntmps4
    go_wp2_with fail
    refine (HS2.out _).mono ?_
    rintro e w1 ⟨v, rfl, hrow, hb1⟩
    obtain ⟨c0, c1, hz, hb⟩ := map_block hb1
    obtain ⟨g, cap, rfl, _, hgl, _, _, hir⟩ := ints_row hrow (by omega)
    rw [hL]
    have HC : Hid (∀ j, j < L → w1.cell? ⟨g, j, none⟩ = some (.int .i64 (C.getD j 0))) := Lib.hid (fun j hj => (hir j (by rw [hL]; exact hj)).1)
    have HB1 := Lib.hid hb
    have q0 := HC.out 0 (by omega)
    rw [← HHD.out] at q0
    clear hb1 hb hrow hir hL
    go_wp2_with fail
    go_loop [8, 26] (fun x i => ∃ j : Nat, j ≤ L ∧ i = .int .i64 j ∧ x = .int .i64 (lowAt C j)) (fun _ i => L - (RowKit.intOf i).toNat)
    case atStart => exact ⟨0, Nat.zero_le _, rfl, rfl⟩
    case round =>
      obtain ⟨j, hj, rfl, rfl⟩ := hrel
      clear q0
      by_cases hlt : j < L
      · have q := HC.out j hlt
        have hst := HLT.out j hlt
        obtain ⟨x, hx⟩ : ∃ x, C.getD j 0 = x := ⟨_, rfl⟩
        obtain ⟨a, ha⟩ : ∃ a, lowAt C j = a := ⟨_, rfl⟩
        rw [hx] at q hst
        rw [ha] at hst ⊢
        have hj1 : (j : Int) < (L : Int) := by omega
        have HST := Lib.hid hst
        clear hst hx ha
        cases hox : oddB x
        · have tx := tm_even hox
          have HN := Lib.hid (HST.out.trans (step_keep (.inl (oddB_even hox))))
          clear hox
          go_wp2_with fail
          exact ⟨⟨j + 1, hlt, by go_num, by rw [HN.out]⟩, by simp [RowKit.intOf]; omega⟩
        · have tx := tm_odd hox
          cases hoa : oddB a
          · have ta := tm_even hoa
            have HN := Lib.hid (HST.out.trans (step_take (oddB_odd hox) (.inl (oddB_even hoa))))
            clear hox hoa
            go_wp2_with fail
            exact ⟨⟨j + 1, hlt, by go_num, by rw [HN.out]⟩, by simp [RowKit.intOf]; omega⟩
          · have ta := tm_odd hoa
            by_cases hl : x < a
            · have HN := Lib.hid (HST.out.trans (step_take (oddB_odd hox) (.inr hl)))
              clear hox hoa
              go_wp2_with fail
              exact ⟨⟨j + 1, hlt, by go_num, by rw [HN.out]⟩, by simp [RowKit.intOf]; omega⟩
            · have HN := Lib.hid (HST.out.trans (step_keep (.inr ⟨oddB_odd hoa, hl⟩)))
              have hl2 : a ≤ x := by omega
              clear hox hoa
              go_wp2_with fail
              all_goals first
                | (rename_i hh; exact absurd hh.2 (by simpa using ta))
                | exact ⟨⟨j + 1, hlt, by go_num, by rw [HN.out]⟩, by simp [RowKit.intOf]; omega⟩
      · obtain rfl : j = L := by omega
        rw [HFIN.out]
        have hj1 : ¬ ((j : Int) < (j : Int)) := by omega
        clear HC HLT HHD HFIN HL
        go_wp2_with fail
        go_loopw [11, 12] (fun s x wr => ∃ k : Nat, k < E ∧ k ≤ 10 ∧ s = .string (wby (wrd t p r k)) ∧ x = .int .i64 (itr (sx t p) k r) ∧ wr.cell? ⟨w.heap.size, 0, none⟩ = some (.int .i64 t) ∧ wr.cell? ⟨w.heap.size, 1, none⟩ = some (.int .i64 p) ∧ w.heap.size < wr.heap.size ∧ Below w.heap.size w wr) (fun s _ _ => 12 - strSz s)
        case atStart => exact ⟨0, HW.out.pos, by omega, rfl, rfl, c0, c1, hz, HB1.out⟩
        case round =>
          clear c0 c1 hz HB1
          obtain ⟨k, hk, hk10, rfl, rfl, c0, c1, hz, hb⟩ := hrel
          have hwl := wrd_length t p r k
          have hws := wrd_succ t p r k
          have his := itr_succ (sx t p) k r
          have hnum := HW.out.num k
          have HBK : Hid (k + 1 = E → itr (sx t p) (k + 1) r = r) := Lib.hid (fun e => by rw [e]; exact HW.out.back)
          have HNB : Hid (k + 1 < E → itr (sx t p) (k + 1) r ≠ r) := Lib.hid (fun e => HW.out.first _ (by omega) e)
          obtain ⟨v, hv⟩ : ∃ v, itr (sx t p) k r = v := ⟨_, rfl⟩
          obtain ⟨l, hl⟩ : ∃ l, wrd t p r k = l := ⟨_, rfl⟩
          rw [hv] at hws his hnum
          rw [hl] at hws hwl
          rw [hv, hl]
          have HSV := Lib.hid (fun w => HSP.out w v hnum)
          have HIS := Lib.hid his
          have HB := Lib.hid hb
          rw [his] at HBK HNB
          obtain ⟨v', hv'⟩ : ∃ v', sx t p v = v' := ⟨_, rfl⟩
          rw [hv'] at HBK HNB HSV HIS
          clear his hv hl hb hnum hv'
          cases ho : oddB v
          all_goals
            first | rw [par_even ho] at hws | rw [par_odd ho] at hws
            obtain ⟨l2, hl2⟩ : ∃ l2, wrd t p r (k + 1) = l2 := ⟨_, rfl⟩
            have hsz : (wby l2).size = k + 1 := by rw [← hl2, wby_size, wrd_length]
            have HWS := Lib.hid hl2
            rw [hl2] at hws
            have hadd := fun w b => wby_add w l b (by omega)
            rw [hws] at hsz
            have HW2 := Lib.hid hws
            first | have ht := tm_even ho | have ht := tm_odd ho
            have HWL := Lib.hid hwl
            clear hws hwl hl2 ho
            go_wp2_with fail
            refine (HSV.out _).mono ?_
            rintro e w2 ⟨rfl, hb2⟩
            have d0 := kept_cell hb2 hz c0
            have d1 := kept_cell hb2 hz c1
            have HB2 := Lib.hid (HB.out.trans (hb2.mono (Nat.le_of_lt hz)))
            have hz2 := Nat.lt_of_lt_of_le hz hb2.size
            clear hb2 c0 c1
            by_cases h10 : k + 1 ≤ 10
            · have hng : ¬ (10 < (k : Int) + 1) := by omega
              by_cases hend : k + 1 = E
              · obtain rfl : v' = r := HBK.out hend
                obtain ⟨hy1, hy2⟩ := HYES.out (by omega)
                rw [← hend] at hy2
                have HY1 := Lib.hid hy1
                have HY2 := Lib.hid (hy2.trans (by rw [HWS.out, HW2.out]))
                clear hy1 hy2 hend
                go_wp2_with fail
                go_ret2
                exact ⟨ret_sb HY2.out.symm HY1.out.symm, HB2.out⟩
              · have hne : v' ≠ r := HNB.out (by omega)
                go_wp2_with fail
                exact ⟨⟨k + 1, by omega, h10, by rw [HWS.out, HW2.out], by rw [HIS.out], d0, d1, hz2, HB2.out⟩, by have := HWL.out; simp [strSz, wby_size]; omega⟩
            · have hng : 10 < (k : Int) + 1 := by omega
              obtain ⟨hy1, hy2⟩ := HNO.out (by omega)
              have HY1 := Lib.hid hy1
              have HY2 := Lib.hid hy2
              clear hy1 hy2
              go_wp2_with fail
              go_ret2
              exact ⟨ret_sb (by rw [HY2.out]; rfl) HY1.out.symm, HB2.out⟩
end Go.Proofs.YtlbiafeiedhhfaaDoor
