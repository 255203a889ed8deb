/-
  'trBefore', 'trShort' of the model: the numbers before a number.
-/
import Derived.Test.YtjcpdlamgjpmmaaPutW
import Derived.Test.YtjcpdlamgjpmmaaTreeB
import Derived.Test.YtjcpdlamgjpmmaaPutM
namespace Go.Proofs.Ytjcpdlamgjpmmaa
open Go.RowKit
set_option linter.unusedVariables false

theorem first_facts {w w1 : World} {a b x : Value} {T : TypeId} (hg : ((w.alloc (.cells #[a, b] T)).alloc (.cells #[x] 3)).grownBy w1 none) :
    w1.cell? ⟨w.heap.size, 0, none⟩ = some a ∧ w1.cell? ⟨w.heap.size, 1, none⟩ = some b ∧ w.heap.size + 1 ≤ w1.heap.size ∧ Below w.heap.size w w1 := by
  have hb : Below (w.heap.size + 1) (w.alloc (.cells #[a, b] T)) w1 := ((Below.refl _ _).alloc (by simp) _).grown hg (by simp) (fun k e => by cases e)
  have hs := hg.size
  refine ⟨(hb.cell (p := ⟨w.heap.size, 0, none⟩) (Nat.lt_succ_self _)).trans (by go_simp), (hb.cell (p := ⟨w.heap.size, 1, none⟩) (Nat.lt_succ_self _)).trans (by go_simp), by simp at hs; omega, ((Below.refl _ w).alloc (Nat.le_refl _) _).trans (hb.mono (Nat.le_succ _))⟩

set_option maxRecDepth 100000 in
set_option maxHeartbeats 4000000 in
theorem trBefore_any (t p n : Int) (w : World) (hg : goodB t p = true) (hn : numB n = true) :
    Calls Try.prog 76 #[.agg #[.int .i64 t, .int .i64 p], .int .i64 n] w fun e w' => ∃ v, e = .returned v ∧ UpAt w' w.heap.size v (befB false t p n) ∧ Below w.heap.size w w' := by
  obtain ⟨i0, hi, hi0, hi1, hi2⟩ := info_parts info3
  obtain ⟨n1, n2⟩ := numB_iff.1 hn
  have HO := Lib.hid (fun w => trOdd_any t p n w hg (by omega) (by omega))
  have HE := Lib.hid (fun x (h : oddBf t p n = some x) => oddBf_eq h)
  have HBF : Hid (befB false t p n = putO (oddBf t p n) (dblL n)) := Lib.hid rfl
  have HOD := Lib.hid (fun y (h : oddBf t p n = some y) => dbl_odd (n := n) ((oddBf_iff hg).1 h).2.1)
  have HM := Lib.hid (fun w => mpIs_any (2 * n) w)
  generalize (n - p).tdiv t = y at HO HE
  generalize befB false t p n = bs at HBF ⊢
  clear hg hn
  cases hn2 : numB (2 * n)
  · have HD : Hid (dblL n = []) := Lib.hid (by rw [dblL, if_neg (by simp [hn2])])
    rw [hn2] at HM
    clear hn2
    cases ho : oddBf t p n with
    | none =>
      have HX : Hid (bs = []) := Lib.hid (by rw [HBF.out, ho, HD.out]; rfl)
      rw [ho] at HO
      clear ho HE HBF HOD HD
      go_enter Try.func76, Try.ntmps76
      go_wp2_with (go_at_call 36; refine (HM.out _).mono ?_; rintro e w' ⟨rfl, rfl⟩)
      refine (HO.out _).mono ?_
      rintro e w1 ⟨rfl, hb1⟩
      obtain ⟨c0, c1, hz, hb⟩ := map_block hb1
      clear hb1
      go_wp2_with fail
      go_ret
      exact ⟨_, rfl, .inl ⟨rfl, HX.out⟩, hb⟩
    | some x0 =>
      obtain rfl : x0 = y := HE.out _ ho
      have HX : Hid (bs = [x0]) := Lib.hid (by rw [HBF.out, ho, HD.out]; rfl)
      rw [ho] at HO
      clear ho HE HBF HOD HD
      go_enter Try.func76, Try.ntmps76
      go_wp2_with (go_at_call 36; refine (HM.out _).mono ?_; rintro e w' ⟨rfl, rfl⟩)
      refine (HO.out _).mono ?_
      rintro e w1 ⟨rfl, hb1⟩
      obtain ⟨c0, c1, hz, hb⟩ := map_block hb1
      clear hb1
      go_wp2_with fail
      refine (l1Put_nil x0 _).mono ?_
      rintro e w2 ⟨v, rfl, hr, hb2⟩
      have HR := Lib.hid hr
      have HB := Lib.hid (hb.trans (hb2.mono (Nat.le_of_lt hz)))
      clear hr hb2 hb c0 c1
      go_wp2_with fail
      go_ret
      exact ⟨v, rfl, .inr ⟨by rw [HX.out]; simp, by rw [HX.out]; exact ownsRow_base HR.out (Nat.le_of_lt hz)⟩, HB.out⟩
  · have HD : Hid (dblL n = [2 * n]) := Lib.hid (by rw [dblL, if_pos hn2])
    rw [hn2] at HM
    clear hn2
    cases ho : oddBf t p n with
    | none =>
      have HX : Hid (bs = [2 * n]) := Lib.hid (by rw [HBF.out, ho, HD.out]; rfl)
      rw [ho] at HO
      clear ho HE HBF HOD HD
      go_enter Try.func76, Try.ntmps76
      go_wp2_with (first
        | (go_at_call 36; refine (HM.out _).mono ?_; rintro e w' ⟨rfl, rfl⟩)
        | (at_builtin; refine wpList_append_own _ rfl _ _ 28 rfl (w.heap.size + 1) 3 i0 (.int .i64 0) 1 8 Try.underlying28 hi hi0 hi1 hi2 rfl (by decide) _ _ _ rfl (World.ownsRow_nil _ _ _ _) ⟨w.heap.size + 1, 0, none⟩ 1 1 [.int .i64 (2 * n)] rfl rfl (fun j u hu => by have := new_int (w.alloc (.cells #[.int .i64 t, .int .i64 p] 25)) (.int .i64 (2 * n)) 3 hu; simpa using this) (by simp [Value.oneCell']) (by unfold maxLen; omega) (by omega) (by simp) ?_; intro v1 w1 hown1 hgrow1 _; obtain ⟨e0, e1, hs1, hbl1⟩ := first_facts hgrow1; have HB1 := Lib.hid hbl1; have HO1 := Lib.hid hown1; clear hown1 hgrow1 hbl1))
      refine (HO.out _).mono ?_
      rintro e w2 ⟨rfl, hb2⟩
      have HO2 := Lib.hid (ownsRow_kept HO1.out hb2)
      have HB2 := Lib.hid (HB1.out.trans (hb2.mono (by omega)))
      clear hb2 e0 e1
      go_wp2_with fail
      go_ret
      exact ⟨v1, rfl, .inr ⟨by rw [HX.out]; simp, by rw [HX.out]; exact ownsRow_base HO2.out (Nat.le_succ _)⟩, HB2.out⟩
    | some x0 =>
      obtain rfl : x0 = y := HE.out _ ho
      have HX : Hid (bs = putI x0 [2 * n]) := Lib.hid (by rw [HBF.out, ho, HD.out]; rfl)
      have HNM : Hid (x0 ∉ [2 * n]) := Lib.hid (by have := HOD.out _ ho; rwa [HD.out] at this)
      rw [ho] at HO
      clear ho HE HBF HOD HD
      go_enter Try.func76, Try.ntmps76
      go_wp2_with (first
        | (go_at_call 36; refine (HM.out _).mono ?_; rintro e w' ⟨rfl, rfl⟩)
        | (at_builtin; refine wpList_append_own _ rfl _ _ 28 rfl (w.heap.size + 1) 3 i0 (.int .i64 0) 1 8 Try.underlying28 hi hi0 hi1 hi2 rfl (by decide) _ _ _ rfl (World.ownsRow_nil _ _ _ _) ⟨w.heap.size + 1, 0, none⟩ 1 1 [.int .i64 (2 * n)] rfl rfl (fun j u hu => by have := new_int (w.alloc (.cells #[.int .i64 t, .int .i64 p] 25)) (.int .i64 (2 * n)) 3 hu; simpa using this) (by simp [Value.oneCell']) (by unfold maxLen; omega) (by omega) (by simp) ?_; intro v1 w1 hown1 hgrow1 _; obtain ⟨e0, e1, hs1, hbl1⟩ := first_facts hgrow1; have HB1 := Lib.hid hbl1; have HO1 := Lib.hid hown1; clear hown1 hgrow1 hbl1))
      refine (HO.out _).mono ?_
      rintro e w2 ⟨rfl, hb2⟩
      have HU2 : Hid (UpAt w2 (w.heap.size + 1) v1 [2 * n]) := Lib.hid (.inr ⟨by simp, ownsRow_kept HO1.out hb2⟩)
      have HB2 := Lib.hid (HB1.out.trans (hb2.mono (by omega)))
      have hs2 : w.heap.size + 1 ≤ w2.heap.size := Nat.le_trans hs1 hb2.size
      clear hb2 e0 e1
      go_wp2_with fail
      refine (l1Put_up x0 HU2.out (by simp) HNM.out).mono ?_
      rintro e w3 ⟨v3, rfl, hr, hb3⟩
      have HR := Lib.hid hr
      have HB3 := Lib.hid (HB2.out.trans (hb3.mono (by omega)))
      clear hr hb3
      go_wp2_with fail
      go_ret
      exact ⟨v3, rfl, .inr ⟨by rw [HX.out]; exact putI_ne _ _, by rw [HX.out]; exact ownsRow_base HR.out (by omega)⟩, HB3.out⟩

set_option maxRecDepth 100000 in
set_option maxHeartbeats 4000000 in
theorem trShort_any (t p n : Int) (w : World) (hg : goodB t p = true) (hn : numB n = true) :
    Calls Try.prog 46 #[.agg #[.int .i64 t, .int .i64 p], .int .i64 n] w fun e w' => ∃ v, e = .returned v ∧ UpAt w' w.heap.size v (befB true t p n) ∧ Below w.heap.size w w' := by
  obtain ⟨i0, hi, hi0, hi1, hi2⟩ := info_parts info3
  obtain ⟨n1, n2⟩ := numB_iff.1 hn
  have HO := Lib.hid (fun w => trOdd_any t p (2 * n) w hg (by omega) (by omega))
  have HE := Lib.hid (fun x (h : oddBf t p (2 * n) = some x) => oddBf_eq h)
  have HBF : Hid (befB true t p n = putO (oddBf t p (2 * n)) (dblL n)) := Lib.hid rfl
  have HOD := Lib.hid (fun y (h : oddBf t p (2 * n) = some y) => dbl_odd (n := n) ((oddBf_iff hg).1 h).2.1)
  have HM := Lib.hid (fun w => mpIs_any (2 * n) w)
  generalize ((2 * n) - p).tdiv t = y at HO HE
  generalize befB true t p n = bs at HBF ⊢
  clear hg hn
  cases hn2 : numB (2 * n)
  · have HD : Hid (dblL n = []) := Lib.hid (by rw [dblL, if_neg (by simp [hn2])])
    rw [hn2] at HM
    clear hn2
    cases ho : oddBf t p (2 * n) with
    | none =>
      have HX : Hid (bs = []) := Lib.hid (by rw [HBF.out, ho, HD.out]; rfl)
      rw [ho] at HO
      clear ho HE HBF HOD HD
      go_enter Try.func46, Try.ntmps46
      go_wp2_with (go_at_call 36; refine (HM.out _).mono ?_; rintro e w' ⟨rfl, rfl⟩)
      refine (HO.out _).mono ?_
      rintro e w1 ⟨rfl, hb1⟩
      obtain ⟨c0, c1, hz, hb⟩ := map_block hb1
      clear hb1
      go_wp2_with fail
      go_ret
      exact ⟨_, rfl, .inl ⟨rfl, HX.out⟩, hb⟩
    | some x0 =>
      obtain rfl : x0 = y := HE.out _ ho
      have HX : Hid (bs = [x0]) := Lib.hid (by rw [HBF.out, ho, HD.out]; rfl)
      rw [ho] at HO
      clear ho HE HBF HOD HD
      go_enter Try.func46, Try.ntmps46
      go_wp2_with (go_at_call 36; refine (HM.out _).mono ?_; rintro e w' ⟨rfl, rfl⟩)
      refine (HO.out _).mono ?_
      rintro e w1 ⟨rfl, hb1⟩
      obtain ⟨c0, c1, hz, hb⟩ := map_block hb1
      clear hb1
      go_wp2_with fail
      refine (l1Put_nil x0 _).mono ?_
      rintro e w2 ⟨v, rfl, hr, hb2⟩
      have HR := Lib.hid hr
      have HB := Lib.hid (hb.trans (hb2.mono (Nat.le_of_lt hz)))
      clear hr hb2 hb c0 c1
      go_wp2_with fail
      go_ret
      exact ⟨v, rfl, .inr ⟨by rw [HX.out]; simp, by rw [HX.out]; exact ownsRow_base HR.out (Nat.le_of_lt hz)⟩, HB.out⟩
  · have HD : Hid (dblL n = [2 * n]) := Lib.hid (by rw [dblL, if_pos hn2])
    rw [hn2] at HM
    clear hn2
    cases ho : oddBf t p (2 * n) with
    | none =>
      have HX : Hid (bs = [2 * n]) := Lib.hid (by rw [HBF.out, ho, HD.out]; rfl)
      rw [ho] at HO
      clear ho HE HBF HOD HD
      go_enter Try.func46, Try.ntmps46
      go_wp2_with (first
        | (go_at_call 36; refine (HM.out _).mono ?_; rintro e w' ⟨rfl, rfl⟩)
        | (at_builtin; refine wpList_append_own _ rfl _ _ 28 rfl (w.heap.size + 1) 3 i0 (.int .i64 0) 1 8 Try.underlying28 hi hi0 hi1 hi2 rfl (by decide) _ _ _ rfl (World.ownsRow_nil _ _ _ _) ⟨w.heap.size + 1, 0, none⟩ 1 1 [.int .i64 (2 * n)] rfl rfl (fun j u hu => by have := new_int (w.alloc (.cells #[.int .i64 t, .int .i64 p] 25)) (.int .i64 (2 * n)) 3 hu; simpa using this) (by simp [Value.oneCell']) (by unfold maxLen; omega) (by omega) (by simp) ?_; intro v1 w1 hown1 hgrow1 _; obtain ⟨e0, e1, hs1, hbl1⟩ := first_facts hgrow1; have HB1 := Lib.hid hbl1; have HO1 := Lib.hid hown1; clear hown1 hgrow1 hbl1))
      refine (HO.out _).mono ?_
      rintro e w2 ⟨rfl, hb2⟩
      have HO2 := Lib.hid (ownsRow_kept HO1.out hb2)
      have HB2 := Lib.hid (HB1.out.trans (hb2.mono (by omega)))
      clear hb2 e0 e1
      go_wp2_with fail
      go_ret
      exact ⟨v1, rfl, .inr ⟨by rw [HX.out]; simp, by rw [HX.out]; exact ownsRow_base HO2.out (Nat.le_succ _)⟩, HB2.out⟩
    | some x0 =>
      obtain rfl : x0 = y := HE.out _ ho
      have HX : Hid (bs = putI x0 [2 * n]) := Lib.hid (by rw [HBF.out, ho, HD.out]; rfl)
      have HNM : Hid (x0 ∉ [2 * n]) := Lib.hid (by have := HOD.out _ ho; rwa [HD.out] at this)
      rw [ho] at HO
      clear ho HE HBF HOD HD
      go_enter Try.func46, Try.ntmps46
      go_wp2_with (first
        | (go_at_call 36; refine (HM.out _).mono ?_; rintro e w' ⟨rfl, rfl⟩)
        | (at_builtin; refine wpList_append_own _ rfl _ _ 28 rfl (w.heap.size + 1) 3 i0 (.int .i64 0) 1 8 Try.underlying28 hi hi0 hi1 hi2 rfl (by decide) _ _ _ rfl (World.ownsRow_nil _ _ _ _) ⟨w.heap.size + 1, 0, none⟩ 1 1 [.int .i64 (2 * n)] rfl rfl (fun j u hu => by have := new_int (w.alloc (.cells #[.int .i64 t, .int .i64 p] 25)) (.int .i64 (2 * n)) 3 hu; simpa using this) (by simp [Value.oneCell']) (by unfold maxLen; omega) (by omega) (by simp) ?_; intro v1 w1 hown1 hgrow1 _; obtain ⟨e0, e1, hs1, hbl1⟩ := first_facts hgrow1; have HB1 := Lib.hid hbl1; have HO1 := Lib.hid hown1; clear hown1 hgrow1 hbl1))
      refine (HO.out _).mono ?_
      rintro e w2 ⟨rfl, hb2⟩
      have HU2 : Hid (UpAt w2 (w.heap.size + 1) v1 [2 * n]) := Lib.hid (.inr ⟨by simp, ownsRow_kept HO1.out hb2⟩)
      have HB2 := Lib.hid (HB1.out.trans (hb2.mono (by omega)))
      have hs2 : w.heap.size + 1 ≤ w2.heap.size := Nat.le_trans hs1 hb2.size
      clear hb2 e0 e1
      go_wp2_with fail
      refine (l1Put_up x0 HU2.out (by simp) HNM.out).mono ?_
      rintro e w3 ⟨v3, rfl, hr, hb3⟩
      have HR := Lib.hid hr
      have HB3 := Lib.hid (HB2.out.trans (hb3.mono (by omega)))
      clear hr hb3
      go_wp2_with fail
      go_ret
      exact ⟨v3, rfl, .inr ⟨by rw [HX.out]; exact putI_ne _ _, by rw [HX.out]; exact ownsRow_base HR.out (by omega)⟩, HB3.out⟩
end Go.Proofs.Ytjcpdlamgjpmmaa
