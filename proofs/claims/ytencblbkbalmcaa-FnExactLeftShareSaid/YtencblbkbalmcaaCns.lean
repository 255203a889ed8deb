/-
  HOW MANY RESIDUES ARE LEFT: 'rsCounts', 'rsLeft' of the model.
-/
import Derived.Test.YtencblbkbalmcaaFw
import Derived.Test.YtencblbkbalmcaaIntRows
import Derived.OwnWalk
import Derived.WalkLawsBesides
namespace Go.Proofs.Ytencblbkbalmcaa
open Go.RowKit
set_option linter.unusedVariables false

/-- The first n of a function. -/
def lsF (n : Nat) (f : Nat → Nat) : List Int := (List.range n).map fun (o : Nat) => ((f o : Nat) : Int)
theorem lsF_length (n : Nat) (f : Nat → Nat) : (lsF n f).length = n := by simp [lsF]
theorem lsF_at {n : Nat} (f : Nat → Nat) {o : Nat} (h : o < n) : (lsF n f).getD o 0 = ((f o : Nat) : Int) := by
  unfold lsF
  rw [List.getD_eq_getElem?_getD, List.getElem?_map, List.getElem?_range h]
  rfl
theorem lsF_get {n : Nat} (f : Nat → Nat) {o : Nat} (h : o < n) : ((lsF n f).map (Value.int .i64))[o]? = some (.int .i64 ((f o : Nat) : Int)) := by
  unfold lsF
  rw [List.getElem?_map, List.getElem?_map, List.getElem?_range h]
  rfl
theorem lsF_congr {n : Nat} {f g : Nat → Nat} (h : ∀ o, o < n → f o = g o) : lsF n f = lsF n g := by
  unfold lsF
  exact List.map_congr_left (fun o ho => by rw [h o (List.mem_range.1 ho)])
theorem lsF_set (n : Nat) (f g : Nat → Nat) (j v : Nat) (hj : g j = v) (hne : ∀ o, o ≠ j → g o = f o) : ((lsF n f).map (Value.int .i64)).set j (.int .i64 ((v : Nat) : Int)) = (lsF n g).map (Value.int .i64) := by
  apply List.ext_getElem (by simp [lsF])
  intro i h1 h2
  rw [List.getElem_set]
  by_cases e : j = i
  · subst e; simp [lsF, hj]
  · simp [lsF, e, hne i (fun h => e h.symm)]
theorem lsF_zero (n : Nat) : (lsF n (fun _ => 0)).map (Value.int .i64) = List.replicate n (.int .i64 0) := by
  apply List.ext_getElem (by simp [lsF])
  intro i h1 h2
  simp [lsF]
/-- The next list at the m-th of a round's two calls. -/
def nxm (t : Int) (k j : Nat) : Nat → Nat → Nat
  | 0, o => nxt t k j o
  | 1, o => nxh t k j o
  | _, o => nxt t k (j + 1) o
def fnm (t : Int) (k j : Nat) : Nat → Nat
  | 0 => fn t k j
  | 1 => fnh t k j
  | _ => fn t k (j + 1)
theorem nxm_fall {t : Int} {k j m : Nat} (hm : m < 2) (h : fl t (j + m) (k + 1) = true) : (∀ o, nxm t k j m o = nxm t k j (m + 1) o) ∧ fnm t k j (m + 1) = fnm t k j m + wyR t k j := by
  have : m = 0 ∨ m = 1 := by omega
  rcases this with rfl | rfl
  · exact ⟨fun o => congrFun (nxh_fall h).symm o, fnh_fall h⟩
  · exact ⟨fun o => congrFun (nxt_fall h).symm o, fn_fall h⟩
theorem nxm_stay {t : Int} {k j m : Nat} (hm : m < 2) (h : fl t (j + m) (k + 1) = false) : nxm t k j (m + 1) (j + m) = nxm t k j m (j + m) + wyR t k j ∧ (∀ o, o ≠ j + m → nxm t k j (m + 1) o = nxm t k j m o) ∧ fnm t k j (m + 1) = fnm t k j m := by
  have : m = 0 ∨ m = 1 := by omega
  rcases this with rfl | rfl
  · refine ⟨?_, fun o ho => ?_, fnh_stay h⟩
    · show nxh t k j j = nxt t k j j + wyR t k j
      rw [nxh_stay (j := j) h, if_pos rfl]
    · show nxh t k j o = nxt t k j o
      rw [nxh_stay (j := j) h, if_neg (show ¬ o = j from ho)]
  · refine ⟨?_, fun o ho => ?_, fn_stay h⟩
    · show nxt t k (j + 1) (j + 1) = nxh t k j (j + 1) + wyR t k j
      rw [nxt_stay h, if_pos rfl]
    · show nxt t k (j + 1) o = nxh t k j o
      rw [nxt_stay h, if_neg ho]
theorem nxt_le (t : Int) (k j o : Nat) : nxt t k j o ≤ 2 ^ (k + 1) := by
  unfold nxt
  have := wyR_le t k o
  have := wyR_le t k (o - 1)
  have hp : 2 ^ (k + 1) = 2 ^ k * 2 := Nat.pow_succ 2 k
  split <;> (try split) <;> (try split) <;> omega
theorem nxh_le (t : Int) (k j o : Nat) : nxh t k j o ≤ 2 ^ (k + 1) := by
  unfold nxh
  have := wyR_le t k o
  have := wyR_le t k (o - 1)
  have hp : 2 ^ (k + 1) = 2 ^ k * 2 := Nat.pow_succ 2 k
  split <;> (try split) <;> (try split) <;> omega
theorem nxm_le (t : Int) (k j m o : Nat) : nxm t k j m o ≤ 2 ^ (k + 1) := by
  match m with
  | 0 => exact nxt_le _ _ _ _
  | 1 => exact nxh_le _ _ _ _
  | m + 2 => exact nxt_le _ _ _ _
theorem fnh_le (t : Int) {k j : Nat} (h : j ≤ k) : fnh t k j ≤ 2 ^ (k + 1) := by
  have h1 : fnh t k j ≤ fn t k (j + 1) := by
    show sumR _ j + _ ≤ sumR _ j + (_ + _)
    omega
  exact Nat.le_trans h1 (fn_le t k (by omega))
theorem fnm_le (t : Int) {k j : Nat} (m : Nat) (h : j ≤ k) : fnm t k j m ≤ 2 ^ (k + 1) := by
  match m with
  | 0 => exact fn_le _ _ (by omega)
  | 1 => exact fnh_le _ h
  | m + 2 => exact fn_le _ _ (by omega)
/-- How many fall just with the last of k signs. -/
def fk (t : Int) : Nat → Nat
  | 0 => 0
  | k + 1 => fn t k (k + 1)
theorem fk_lf (t : Int) (k : Nat) : ((fk t (k + 1) : Nat) : Int) = 2 * (lf t k : Nat) - (lf t (k + 1) : Nat) := by
  have := fn_lf t k
  show ((fn t k (k + 1) : Nat) : Int) = _
  omega

theorem ret_vi {v : Value} {x y : Int} (h : x = y) : Ending.returned (.tuple #[v, .int .i64 x]) = .returned (.tuple #[v, .int .i64 y]) := by rw [h]

set_option maxRecDepth 100000 in
set_option maxHeartbeats 4000000 in
theorem rsCounts_any (t p : Int) (K : Nat) (w : World) (hg : goodB t p = true) (hK : K ≤ 30) :
    Calls Try.prog 23 #[.agg #[.int .i64 t, .int .i64 p], .int .i64 (K : Int)] w fun e w' => ∃ v, e = .returned (.tuple #[v, .int .i64 (fk t K : Nat)]) ∧ IntsAt w' w.heap.size v (lsF (K + 1) (wyR t K)) ∧ Below w.heap.size w w' := by
  obtain ⟨i0, hi, hi0, hi1, hi2⟩ := info_parts info3
  have HG := Lib.hid hg
  have hK1 : (K : Int) ≤ 30 := by omega
  have HN0 : Hid (IntsAt ((w.alloc (.cells #[.int .i64 t, .int .i64 p] 26)).alloc (.cells #[.int .i64 1] 3)) (w.heap.size + 1) (.slice (some ⟨w.heap.size + 1, 0, none⟩) 1 1) (lsF 1 (wyR t 0))) := Lib.hid (by
    have h := World.ownsRow_lit (base := w.heap.size + 1) (e := 3) (size := 1) (w.alloc (.cells #[.int .i64 t, .int .i64 p] 26)) #[.int .i64 1] 1 (by simp) (by unfold maxLen; omega) (by simp)
    unfold IntsAt
    rw [lsF_length]
    simp at h
    exact h)
  clear hg
  go_enter Try.func23, Try.ntmps23
  go_wp2_with fail
  go_loopw [6, 7, 8] (fun v f x wr => ∃ k : Nat, k ≤ K ∧ x = .int .i64 ((k : Int) + 1) ∧ f = .int .i64 (fk t k : Nat) ∧ IntsAt wr (w.heap.size + 1) v (lsF (k + 1) (wyR t k)) ∧ wr.cell? ⟨w.heap.size, 0, none⟩ = some (.int .i64 t) ∧ wr.cell? ⟨w.heap.size, 1, none⟩ = some (.int .i64 p) ∧ w.heap.size < wr.heap.size ∧ Below w.heap.size w wr) (fun _ _ x _ => K + 1 - (intOf x).toNat)
  case atStart => exact ⟨0, Nat.zero_le _, by simp, rfl, HN0.out, by go_simp, by go_simp, by simp; omega, ((Below.refl _ w).alloc (Nat.le_refl _) _).alloc (by simp) _⟩
  case round =>
    clear HN0
    obtain ⟨k, hk, rfl, rfl, hn, c0, c1, hz, hb⟩ := hrel
    have HN := Lib.hid hn
    have HB := Lib.hid hb
    by_cases hlt : k < K
    · have hle : (k : Int) + 1 ≤ (K : Int) := by omega
      have hP30 := pow30 (k := k + 1) (by omega)
      have HLN := Lib.hid (fun j m o => Nat.le_trans (nxm_le t k j m o) hP30)
      have HLF := Lib.hid (fun j m (h : j ≤ k) => Nat.le_trans (fnm_le t m h) hP30)
      have HLW := Lib.hid (fun o => Nat.le_trans (wyR_le t k o) (pow30 (k := k) (by omega)))
      have HB30 := Lib.hid (show k + 1 ≤ 30 by omega)
      have HKK := Lib.hid hlt
      obtain ⟨gl, capl, rfl, hglB, hgl, hcapl, hrowl⟩ : ∃ g cap, u6 = .slice (some ⟨g, 0, none⟩) (lsF (k + 1) (wyR t k)).length cap ∧ w.heap.size + 1 ≤ g ∧ g < wr.heap.size ∧ (lsF (k + 1) (wyR t k)).length ≤ maxLen ∧ IntRow wr g (lsF (k + 1) (wyR t k)) := by
        rcases hn.cases with ⟨_, h⟩ | ⟨g, cap, h⟩
        · have := congrArg List.length h
          rw [lsF_length] at this
          simp at this
        · exact ⟨g, cap, h⟩
      rw [lsF_length]
      obtain ⟨wo, rfl⟩ : ∃ wo : World, wo = wr := ⟨_, rfl⟩
      have HR := Lib.hid hrowl
      have hk31 : (k : Int) ≤ 30 := by omega
      clear hP30 hk hlt hn hb hcapl hrowl
      go_wp2_with (at_make; refine wpList_make_full _ rfl _ _ 39 rfl wo.heap.size 3 i0 (.int .i64 0) 1 Try.underlying39 hi hi0 hi1 .i64 .i64 (k + 2) (k + 2) (k + 2) rfl rfl rfl rfl ?c1 ?c2 ?c3 ?_; rotate_right; intro w3 hown3 hgrow3)
      case c1 => rw [hi2]; have := HB30.out; omega
      case c2 => unfold maxLen; have := HB30.out; omega
      case c3 => exact Nat.le_refl _
      have HW3 : Hid (Below wo.heap.size wo w3) := Lib.hid ((Below.refl wo.heap.size wo).grown hgrow3 (Nat.le_refl _) (fun k e => by simp at e))
      have HO3 : Hid (w3.ownsRow wo.heap.size 3 1 (.slice (some ⟨wo.heap.size, 0, none⟩) (k + 2) (k + 2)) (k + 2) ((lsF (k + 2) (nxt t k 0)).map (Value.int .i64))) := Lib.hid (by
        rw [lsF_congr (fun o _ => nxt_zero t k o), lsF_zero]
        have := hown3
        rw [show (Value.int .i64 0).cells = #[Value.int .i64 0] from rfl, Nat.mul_one, toList_madeCells_one] at this
        simpa using this)
      have d0 := kept_cell HW3.out hz c0
      have d1 := kept_cell HW3.out hz c1
      have HR3 := Lib.hid (HR.out.kept hgl HW3.out)
      have HB3 := Lib.hid (HB.out.trans (HW3.out.mono HB.out.size))
      clear hown3 hgrow3 c0 c1 HR HB HN
      go_loopw [7, 10, 11, 12, 24] (fun f _ _ _ x wr => ∃ j : Nat, j ≤ k + 1 ∧ x = .int .i64 (j : Int) ∧ f = .int .i64 (fn t k j : Nat) ∧ wr.ownsRow wo.heap.size 3 1 (.slice (some ⟨wo.heap.size, 0, none⟩) (k + 2) (k + 2)) (k + 2) ((lsF (k + 2) (nxt t k j)).map (Value.int .i64)) ∧ Below wo.heap.size w3 wr) (fun _ _ _ _ x _ => k + 1 - (intOf x).toNat)
      case atStart => exact ⟨0, Nat.zero_le _, rfl, rfl, HO3.out, Below.refl _ _⟩
      case round =>
        clear HO3
        obtain ⟨j, hj, rfl, rfl, hown, hbr⟩ := hrel
        have HO := Lib.hid hown
        have HBR := Lib.hid hbr
        have e0 := (hbr.cell (p := ⟨w.heap.size, 0, none⟩) hz).trans d0
        have e1 := (hbr.cell (p := ⟨w.heap.size, 1, none⟩) hz).trans d1
        have hsz2 := (World.ownsRow.lt hown wo.heap.size rfl).2
        clear hown hbr
        by_cases hlt : j < k + 1
        · have hlt2 : (j : Int) < (k : Int) + 1 := by omega
          have q : wr.cell? ⟨gl, j, none⟩ = some (.int .i64 (wyR t k j : Nat)) := (HBR.out.cell (p := ⟨gl, j, none⟩) hgl).trans (by
            have := (HR3.out j (by rw [lsF_length]; omega)).1
            rw [lsF_at (wyR t k) (by omega)] at this
            exact this)
          have HLWJ := HLW.out j
          have HFA := Lib.hid (fun m (hm : m < 2) (h : fl t (j + m) (k + 1) = true) => nxm_fall (t := t) (k := k) (j := j) hm h)
          have HST := Lib.hid (fun m (hm : m < 2) (h : fl t (j + m) (k + 1) = false) => nxm_stay (t := t) (k := k) (j := j) hm h)
          have HLFJ := Lib.hid (fun m => HLF.out j m (by omega))
          have HFL := Lib.hid (fun m (hm : m < 2) w => woFalls_big t p (j + m) (k + 1) w HG.out (by have := HB30.out; omega) HB30.out)
          obtain ⟨wp, rfl⟩ : ∃ wp : World, wp = wr := ⟨_, rfl⟩
          obtain ⟨C, hC⟩ : ∃ C, C = wyR t k j := ⟨_, rfl⟩
          rw [← hC] at q HLWJ HFA HST
          have hC' : (C : Int) ≤ 2147483648 := by omega
          have hj30 : (j : Int) ≤ 30 := by have := HB30.out; omega
          clear hC HLWJ
          go_wp2_with fail
          go_loopw [7, 12] (fun f y wr => ∃ m : Nat, m ≤ 2 ∧ y = .int .i64 (m : Int) ∧ f = .int .i64 (fnm t k j m : Nat) ∧ wr.ownsRow wo.heap.size 3 1 (.slice (some ⟨wo.heap.size, 0, none⟩) (k + 2) (k + 2)) (k + 2) ((lsF (k + 2) (nxm t k j m)).map (Value.int .i64)) ∧ Below wo.heap.size w3 wr ∧ wr.cell? ⟨w.heap.size, 0, none⟩ = some (.int .i64 t) ∧ wr.cell? ⟨w.heap.size, 1, none⟩ = some (.int .i64 p)) (fun _ y _ => 2 - (intOf y).toNat)
          case atStart => exact ⟨0, Nat.zero_le _, rfl, rfl, HO.out, HBR.out, e0, e1⟩
          case round =>
            clear HO HBR e0 e1 q
            obtain ⟨m, hm, rfl, rfl, hown, hbr, e0, e1⟩ := hrel
            have HO := Lib.hid hown
            have HBR := Lib.hid hbr
            have hsz2 := (World.ownsRow.lt hown wo.heap.size rfl).2
            have hszr : wo.heap.size ≤ wr.heap.size := by omega
            clear hown hbr
            by_cases hm2 : m < 2
            · have hm2' : (m : Int) < 2 := by omega
              have HF := Lib.hid (HFL.out m hm2)
              rw [show ((j + m : Nat) : Int) = (j : Int) + m from rfl, show ((k + 1 : Nat) : Int) = (k : Int) + 1 from rfl] at HF
              have hfm := HLFJ.out m
              have hnm := HLN.out j m (j + m)
              have hjm : j + m < k + 2 := by omega
              have hjm' : (j : Int) + m < (k : Int) + 2 := by omega
              have hjmT : ((j : Int) + m).toNat = j + m := by omega
              cases hf : fl t (j + m) (k + 1)
              · obtain ⟨n1, n2, n3⟩ := HST.out m hm2 hf
                have HN3 := Lib.hid n3
                rw [hf] at HF
                have hset := lsF_set (k + 2) (nxm t k j m) (nxm t k j (m + 1)) (j + m) _ n1 n2
                have HSET := Lib.hid hset
                obtain ⟨A, hA⟩ : ∃ A, A = nxm t k j m (j + m) := ⟨_, rfl⟩
                rw [← hA] at HSET hnm
                have hAT := lsF_get (n := k + 2) (nxm t k j m) hjm
                rw [← hA] at hAT
                have HAT := Lib.hid hAT
                have hA' : (A : Int) ≤ 2147483648 := by omega
                clear hf n1 n2 n3 hset hA hAT hfm
                go_wp2_with fail
                refine (HF.out _).mono ?_
                rintro e w4 ⟨rfl, hb4⟩
                have HO4 := Lib.hid (ownsRow_kept HO.out hb4)
                have q : w4.cell? ⟨wo.heap.size, j + m, none⟩ = some (.int .i64 (A : Int)) := by
                  rw [World.ownsRow.cellAt HO4.out (j + m) (by omega)]; exact HAT.out
                have qf : w4.frozen? ⟨wo.heap.size, j + m, none⟩ = false := World.ownsRow.frozenAt HO4.out _
                have hst := World.ownsRow.stored HO4.out (j + m) (.int .i64 ((A + C : Nat) : Int))
                rw [HSET.out] at hst
                have HST2 := Lib.hid hst.1
                have f0 := kept_cell hb4 (by omega) e0
                have f1 := kept_cell hb4 (by omega) e1
                have HB4 := Lib.hid (HBR.out.trans (hb4.mono hszr))
                have hw0 : wo.heap.size ≤ wo.heap.size := Nat.le_refl _
                have g0 := (World.cell?_setCell_other w4 ⟨wo.heap.size, j + m, none⟩ ⟨w.heap.size, 0, none⟩ (.int .i64 ((A + C : Nat) : Int)) (by simp <;> omega)).trans f0
                have g1 := (World.cell?_setCell_other w4 ⟨wo.heap.size, j + m, none⟩ ⟨w.heap.size, 1, none⟩ (.int .i64 ((A + C : Nat) : Int)) (by simp <;> omega)).trans f1
                clear hb4 e0 e1 hst
                go_wp2_with fail
                exact ⟨⟨m + 1, hm2, by go_num, by rw [HN3.out], HST2.out, HB4.out.setCell (p := ⟨wo.heap.size, j + m, none⟩) hw0 _, g0, g1⟩, by simp [intOf]; omega⟩
              · obtain ⟨n1, n2⟩ := HFA.out m hm2 hf
                have HN2 := Lib.hid n2
                have HCG := Lib.hid (lsF_congr (n := k + 2) (fun o _ => n1 o))
                rw [hf] at HF
                obtain ⟨A, hA⟩ : ∃ A, A = fnm t k j m := ⟨_, rfl⟩
                rw [← hA] at HN2 hfm ⊢
                have hA' : (A : Int) ≤ 2147483648 := by omega
                clear hf n1 n2 hA hfm hnm
                go_wp2_with fail
                refine (HF.out _).mono ?_
                rintro e w4 ⟨rfl, hb4⟩
                have ho4 := ownsRow_kept HO.out hb4
                rw [HCG.out] at ho4
                have HO4 := Lib.hid ho4
                have f0 := kept_cell hb4 (by omega) e0
                have f1 := kept_cell hb4 (by omega) e1
                have HB4 := Lib.hid (HBR.out.trans (hb4.mono hszr))
                clear hb4 e0 e1 ho4
                go_wp2_with fail
                exact ⟨⟨m + 1, hm2, by go_num, by rw [HN2.out]; rfl, HO4.out, HB4.out, f0, f1⟩, by simp [intOf]; omega⟩
            · have HM : Hid (m = 2) := Lib.hid (by omega)
              have hm2' : ¬ ((m : Int) < 2) := by omega
              have HO2 : Hid (wr.ownsRow wo.heap.size 3 1 (.slice (some ⟨wo.heap.size, 0, none⟩) (k + 2) (k + 2)) (k + 2) ((lsF (k + 2) (nxt t k (j + 1))).map (Value.int .i64))) := Lib.hid (by have h := HO.out; rw [HM.out] at h; exact h)
              have HF2 : Hid (fnm t k j m = fn t k (j + 1)) := Lib.hid (by rw [HM.out]; rfl)
              clear hm hm2
              go_wp2_with fail
              exact ⟨⟨j + 1, hlt, by go_num, by rw [HF2.out], HO2.out, HBR.out⟩, by simp [intOf]; omega⟩
        · have HJ : Hid (j = k + 1) := Lib.hid (by omega)
          have hlt2 : ¬ ((j : Int) < (k : Int) + 1) := by omega
          have HI : Hid (IntsAt wr (w.heap.size + 1) (.slice (some ⟨wo.heap.size, 0, none⟩) (k + 2) (k + 2)) (lsF (k + 1 + 1) (wyR t (k + 1)))) := Lib.hid (by
            have h := HO.out
            rw [HJ.out, lsF_congr (fun o ho => nxt_full t k o (by omega))] at h
            unfold IntsAt
            rw [lsF_length]
            exact ownsRow_base h (by omega))
          have HF : Hid (fn t k j = fk t (k + 1)) := Lib.hid (by rw [HJ.out]; rfl)
          have HB4 := Lib.hid (HB3.out.trans (HBR.out.mono (by omega)))
          clear hj hlt
          go_wp2_with fail
          exact ⟨⟨k + 1, HKK.out, by go_num, by rw [HF.out], HI.out, e0, e1, by omega, HB4.out⟩, by simp [intOf]; omega⟩
    · have HKE : Hid (k = K) := Lib.hid (by omega)
      have hle : ¬ ((k : Int) + 1 ≤ (K : Int)) := by omega
      clear hk hlt hn hb
      go_wp2_with fail
      go_ret2
      have h := HN.out
      rw [HKE.out] at h
      exact ⟨_, ret_vi (by rw [HKE.out]), ownsRow_base h (by omega), HB.out⟩
set_option maxRecDepth 100000 in
set_option maxHeartbeats 4000000 in
theorem rsLeft_any (t p : Int) (K : Nat) (w : World) (hg : goodB t p = true) (hK : K ≤ 30) :
    Calls Try.prog 26 #[.agg #[.int .i64 t, .int .i64 p], .int .i64 (K : Int)] w fun e w' => e = .returned (.int .i64 (lf t K : Nat)) ∧ Below w.heap.size w w' := by
  have HC := Lib.hid (fun w => rsCounts_any t p K w hg hK)
  have hP30 := pow30 (k := K) (by omega)
  have HSL := Lib.hid (fun i (h : i ≤ K + 1) => Nat.le_trans (sumR_mono (wyR t K) h) (Nat.le_trans (lf_le t K) hP30))
  have HWL := Lib.hid (fun o => Nat.le_trans (wyR_le t K o) hP30)
  have hK1 : (K : Int) ≤ 30 := by omega
  clear hg hP30
  go_enter Try.func26, Try.ntmps26
  go_wp2_with fail
  refine (HC.out _).mono ?_
  rintro e w1 ⟨v, rfl, hn, hb1⟩
  obtain ⟨c0, c1, hz, hb⟩ := map_block hb1
  obtain ⟨gl, capl, rfl, hglB, hgl, hcapl, hrowl⟩ : ∃ g cap, v = .slice (some ⟨g, 0, none⟩) (lsF (K + 1) (wyR t K)).length cap ∧ _ ≤ g ∧ g < w1.heap.size ∧ (lsF (K + 1) (wyR t K)).length ≤ maxLen ∧ IntRow w1 g (lsF (K + 1) (wyR t K)) := by
    rcases hn.cases with ⟨_, h⟩ | ⟨g, cap, h⟩
    · have := congrArg List.length h
      rw [lsF_length] at this
      simp at this
    · exact ⟨g, cap, h⟩
  rw [lsF_length]
  have HR := Lib.hid hrowl
  have HB := Lib.hid hb
  clear hn hb1 hb c0 c1 hrowl hcapl
  go_wp2_with fail
  go_loop [7, 9, 18] (fun x _ y => ∃ j : Nat, j ≤ K + 1 ∧ y = .int .i64 (j : Int) ∧ x = .int .i64 (sumR (wyR t K) j : Nat)) (fun _ _ y => K + 1 - (intOf y).toNat)
  case atStart => exact ⟨0, Nat.zero_le _, rfl, rfl⟩
  case round =>
    obtain ⟨j, hj, rfl, rfl⟩ := hrel
    by_cases hlt : j < K + 1
    · have hlt2 : (j : Int) < (K : Int) + 1 := by omega
      have q : w1.cell? ⟨gl, j, none⟩ = some (.int .i64 (wyR t K j : Nat)) := by
        have := (HR.out j (by rw [lsF_length]; omega)).1
        rw [lsF_at (wyR t K) hlt] at this
        exact this
      have hs1 := HSL.out j hj
      have hs2 := HWL.out j
      have HST : Hid (sumR (wyR t K) (j + 1) = sumR (wyR t K) j + wyR t K j) := Lib.hid rfl
      obtain ⟨A, hA⟩ : ∃ A, A = sumR (wyR t K) j := ⟨_, rfl⟩
      obtain ⟨C, hC⟩ : ∃ C, C = wyR t K j := ⟨_, rfl⟩
      rw [← hA] at hs1 HST ⊢
      rw [← hC] at hs2 q HST
      have l1' : (A : Int) ≤ 2147483648 := by omega
      have l2' : (C : Int) ≤ 2147483648 := by omega
      clear hA hC hs1 hs2
      go_wp2_with fail
      exact ⟨⟨j + 1, hlt, by go_num, by rw [HST.out]; rfl⟩, by simp [intOf]; omega⟩
    · have HJ : Hid (j = K + 1) := Lib.hid (by omega)
      have hlt2 : ¬ ((j : Int) < (K : Int) + 1) := by omega
      clear hj hlt
      go_wp2_with fail
      go_ret
      exact ⟨ret_int (by rw [HJ.out, lf]), HB.out⟩
end Go.Proofs.Ytencblbkbalmcaa
