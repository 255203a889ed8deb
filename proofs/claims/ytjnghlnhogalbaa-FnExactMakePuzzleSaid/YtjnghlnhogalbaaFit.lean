/-
  'fitting' of the program: ContainsFunc over clues by a closure, sieve over hidden numbers by another.
-/
import Derived.Test.YtjnghlnhogalbaaPzI
import Derived.Test.YtjnghlnhogalbaaPzA
import Derived.Shelf.Abstract
namespace Go.Proofs.Ytjnghlnhogalbaa
open Go.RowKit
set_option linter.unusedVariables false

theorem notall_take {f : Pt → Bool} {cs : List Pt} {j : Nat} (hj : j < cs.length) (hx : f (cs.getD j pt0) = true) : cs.any f = true := by
  rw [List.getD_eq_getElem?_getD, List.getElem?_eq_getElem hj] at hx
  rw [List.any_eq_true]
  exact ⟨_, List.getElem_mem hj, by simpa using hx⟩
theorem any_take_no {f : Pt → Bool} {cs : List Pt} {j : Nat} (hj : j < cs.length) (h : (cs.take j).any f = false) (hx : f (cs.getD j pt0) = false) : (cs.take (j + 1)).any f = false := by
  rw [List.take_add_one, List.any_append, h, List.getElem?_eq_getElem hj]
  rw [List.getD_eq_getElem?_getD, List.getElem?_eq_getElem hj] at hx
  simpa using hx

set_option maxRecDepth 100000 in
set_option maxHeartbeats 4000000 in
/-- IndexFunc over clues, for whatever function that only reads and makes memory. -/
theorem indexC_any (fs : Nat) (caps : Array Value) (cs : List Pt) (f : Pt → Bool) (a : Option Addr) (cap : Nat) (w : World)
    (hef : ∀ (args : Array Value) (w : World), (callFunc fs args).run Try.prog w = .ok (.enter fs args) w)
    (hl : cs.length ≤ 6) (hx : ClIn w a cs)
    (hG : ∀ j W, j < cs.length → Below w.heap.size w W → Calls Try.prog fs (#[.agg #[.int .i64 (cs.getD j pt0).1, .int .i64 (cs.getD j pt0).2.1, .int .i64 (cs.getD j pt0).2.2]] ++ caps) W fun e W' => e = .returned (.bool (f (cs.getD j pt0))) ∧ Below W.heap.size W W') :
    Calls Try.prog 107 #[.slice a cs.length cap, .func (.func fs) #[] caps] w fun e w' => ∃ k : Int, e = .returned (.int .i64 k) ∧ (decide (0 ≤ k) = cs.any f) ∧ -1 ≤ k ∧ k ≤ 6 ∧ Below w.heap.size w w' := by
  obtain ⟨K, hK⟩ : ∃ K, cs.length = K := ⟨_, rfl⟩
  have HX : Hid (∀ j, j < K → ∃ b off, a = some ⟨b, off, none⟩ ∧ b < w.heap.size ∧ PtCell w b (off + j * 3) (cs.getD j pt0)) := Lib.hid (by rw [← hK]; exact hx)
  have HYES := Lib.hid (fun j hj => any_take_no (f := f) (cs := cs) (j := j) hj)
  have HNO := Lib.hid (fun j hj => notall_take (f := f) (cs := cs) (j := j) hj)
  have HF : Hid (cs.take K = cs) := Lib.hid (by rw [← hK]; exact List.take_length)
  have HGG := Lib.hid hG
  rw [hK] at hl HYES HNO HGG ⊢
  have hK2 : (K : Int) ≤ 6 := by omega
  clear hx hK hG
  go_enter Try.func107, Try.ntmps107
  go_wp2_with fail
  go_loopw [5, 8] (fun _ i wr => ∃ j : Nat, j ≤ K ∧ i = .int .i64 j ∧ (cs.take j).any f = false ∧ Below w.heap.size w wr) (fun _ i _ => K - (RowKit.intOf i).toNat)
  case atStart => exact ⟨0, Nat.zero_le _, rfl, rfl, Below.refl _ _⟩
  case round =>
    obtain ⟨j, hj, rfl, hall, hbel⟩ := hrel
    have HALL := Lib.hid hall
    have HBL := Lib.hid hbel
    clear hall
    by_cases hlt : j < K
    · obtain ⟨g, off, rfl, hg, q⟩ := HX.out j hlt
      have q2 := q.of (hbel.block g hg)
      have HS := Lib.hid (HYES.out j hlt HALL.out)
      have HN := Lib.hid (HNO.out j hlt)
      have HC := Lib.hid (HGG.out j wr hlt hbel)
      clear q hbel
      obtain ⟨pt, hpt⟩ : ∃ pt, cs.getD j pt0 = pt := ⟨_, rfl⟩
      rw [hpt] at q2 HS HN HC
      obtain ⟨t, p, o⟩ := pt
      obtain ⟨k0, k1, k2⟩ := q2
      dsimp only at k0 k1 k2
      have hlt2 : (j : Int) < (K : Int) := by omega
      clear hpt
      cases hbv : f (t, p, o) with
      | false =>
        rw [hbv] at HC HS
        clear HN hbv
        go_wp2_with fail
        refine HC.out.mono ?_
        rintro e w4 ⟨rfl, hb4⟩
        have HBl4 := Lib.hid (HBL.out.trans (hb4.mono HBL.out.size))
        clear hb4
        go_wp2_with fail
        exact ⟨⟨j + 1, hlt, by go_num, HS.out (by simp), HBl4.out⟩, by simp [RowKit.intOf]; omega⟩
      | true =>
        rw [hbv] at HC HN
        clear HS hbv
        go_wp2_with fail
        refine HC.out.mono ?_
        rintro e w4 ⟨rfl, hb4⟩
        have HBl4 := Lib.hid (HBL.out.trans (hb4.mono HBL.out.size))
        clear hb4
        go_wp2_with fail
        go_ret
        refine ⟨_, rfl, ?_, by omega, by omega, HBl4.out⟩
        rw [HN.out trivial]
        simp
    · obtain rfl : j = K := by omega
      have hlt2 : ¬ ((j : Int) < (j : Int)) := by omega
      clear hbel
      go_wp2_with fail
      go_ret
      refine ⟨_, rfl, ?_, by omega, by omega, HBL.out⟩
      have h := HALL.out
      rw [HF.out] at h
      rw [h]
      rfl

theorem containsC_any (fs : Nat) (caps : Array Value) (cs : List Pt) (f : Pt → Bool) (a : Option Addr) (cap : Nat) (w : World)
    (hef : ∀ (args : Array Value) (w : World), (callFunc fs args).run Try.prog w = .ok (.enter fs args) w)
    (hl : cs.length ≤ 6) (hx : ClIn w a cs)
    (hG : ∀ j W, j < cs.length → Below w.heap.size w W → Calls Try.prog fs (#[.agg #[.int .i64 (cs.getD j pt0).1, .int .i64 (cs.getD j pt0).2.1, .int .i64 (cs.getD j pt0).2.2]] ++ caps) W fun e W' => e = .returned (.bool (f (cs.getD j pt0))) ∧ Below W.heap.size W W') :
    Calls Try.prog 82 #[.slice a cs.length cap, .func (.func fs) #[] caps] w fun e w' => e = .returned (.bool (cs.any f)) ∧ Below w.heap.size w w' := by
  have HC := Lib.hid (indexC_any fs caps cs f a cap w hef hl hx hG)
  clear hl hx hG
  go_enter Try.func82, Try.ntmps82
  go_wp2_with fail
  refine HC.out.mono ?_
  rintro e w4 ⟨k, rfl, hk, h1, h2, hb4⟩
  have HB := Lib.hid hb4
  have HK := Lib.hid hk
  clear hb4 hk
  go_wp2_with fail
  go_ret
  exact ⟨ret_bool HK.out, HB.out⟩

/-- The closure in the closure: does a clue not fit? -/
theorem fit11_any (t p k a b n : Int) (bp bn : Nat) (w : World) (hn0 : 0 ≤ n) (hc : clB (k, a, b) = true) (hp0 : w.cell? ⟨bp, 0, none⟩ = some (.int .i64 t)) (hp1 : w.cell? ⟨bp, 1, none⟩ = some (.int .i64 p)) (hbp : bp < w.heap.size) (hn : w.cell? ⟨bn, 0, none⟩ = some (.int .i64 n)) (hbn : bn < w.heap.size) :
    Calls Try.prog 83 #[.agg #[.int .i64 k, .int .i64 a, .int .i64 b], .pointer (some ⟨bp, 0, none⟩), .pointer (some ⟨bn, 0, none⟩)] w fun e w' => e = .returned (.bool (!fitP t p (k, a, b) n)) ∧ Below w.heap.size w w' := by
  have HC := Lib.hid (fun W => isFitBy_any t p k a b n W hn0 hc)
  have HB := Lib.hid (fun X => below_new w X)
  generalize fitP t p (k, a, b) n = r at HC ⊢
  clear hc hn0
  go_enter Try.func83, Try.ntmps83
  go_wp2_with fail
  refine (HC.out _).mono ?_
  rintro e w1 ⟨rfl, hb1⟩
  have HB1 := Lib.hid ((HB.out _).trans (hb1.mono (HB.out _).size))
  clear hb1
  go_wp2_with fail
  go_ret
  exact ⟨rfl, HB1.out⟩
theorem any_not {f : Pt → Bool} {cs : List Pt} : cs.any (fun q => !f q) = !cs.all f := by
  induction cs with
  | nil => rfl
  | cons q cs ih => simp [ih]

set_option maxHeartbeats 1000000 in
/-- The closure: does a number fit all clues? -/
theorem fit1_any (t p n : Int) (cs : List Pt) (a : Option Addr) (cap bp bc : Nat) (w : World) (hn0 : 0 ≤ n) (hcl : cs.all clB = true) (hl : cs.length ≤ 6) (hx : ClIn w a cs) (hp0 : w.cell? ⟨bp, 0, none⟩ = some (.int .i64 t)) (hp1 : w.cell? ⟨bp, 1, none⟩ = some (.int .i64 p)) (hbp : bp < w.heap.size) (hc : w.cell? ⟨bc, 0, none⟩ = some (.slice a cs.length cap)) (hbc : bc < w.heap.size) :
    Calls Try.prog 81 #[.int .i64 n, .pointer (some ⟨bc, 0, none⟩), .pointer (some ⟨bp, 0, none⟩)] w fun e w' => e = .returned (.bool (allF t p cs n)) ∧ Below w.heap.size w w' := by
  have HB := Lib.hid (below_new w (.cells #[.int .i64 n] 3))
  have hmf : ∀ (fn : Fn) (first cap : Array Value) (w : World), (Instr.makeFunc fn first cap).run Try.prog w = .ok (.func fn first cap) w := fun _ _ _ _ => rfl
  have HC : Hid (Calls Try.prog 82 #[.slice a cs.length cap, .func (.func 83) #[] #[.pointer (some ⟨bp, 0, none⟩), .pointer (some ⟨w.heap.size, 0, none⟩)]] (w.alloc (.cells #[.int .i64 n] 3)) fun e w' => e = .returned (.bool (!allF t p cs n)) ∧ Below w.heap.size w w') := Lib.hid (by
    refine (containsC_any _ _ cs (fun q => !fitP t p q n) a cap _ (enters_of Try.func83 (by kernel_rfl) rfl) hl (hx.grow _) ?_).mono ?_
    · intro j W hj hbw
      have hb0 := (below_new w (.cells #[.int .i64 n] 3)).trans (hbw.mono (by simp))
      obtain ⟨q, hq⟩ : ∃ q, cs.getD j pt0 = q := ⟨_, rfl⟩
      have hcq := all_at hcl hj
      rw [hq] at hcq ⊢
      obtain ⟨k, x, y⟩ := q
      exact fit11_any t p k x y n bp w.heap.size W hn0 hcq ((hb0.cell (p := ⟨bp, 0, none⟩) hbp).trans hp0) ((hb0.cell (p := ⟨bp, 1, none⟩) hbp).trans hp1) (Nat.lt_of_lt_of_le hbp hb0.size) ((hbw.cell (p := ⟨w.heap.size, 0, none⟩) (by simp)).trans (by go_simp)) (Nat.lt_of_lt_of_le (by simp) hbw.size)
    · rintro e w' ⟨rfl, hb⟩
      exact ⟨by rw [any_not]; rfl, (below_new w _).trans (hb.mono (by simp))⟩)
  generalize allF t p cs n = r at HC ⊢
  clear hx hcl hl hn0
  go_enter Try.func81, Try.ntmps81
  go_wp2_with fail
  refine HC.out.mono ?_
  rintro e w1 ⟨rfl, hb1⟩
  have HB1 := Lib.hid hb1
  clear hb1
  go_wp2_with fail
  go_ret
  exact ⟨by simp, HB1.out⟩

set_option maxRecDepth 100000 in
set_option maxHeartbeats 4000000 in
theorem fitting_any (t p : Int) (u : Value) (cs : List Pt) (a : Option Addr) (cap : Nat) (w : World) (hcl : cs.all clB = true) (hl : cs.length ≤ 6) (hx : ClIn w a cs) :
    Calls Try.prog 42 #[.agg #[.int .i64 t, .int .i64 p, u], .slice a cs.length cap] w (RetNew (solA t p cs) w) := by
  have hmf : ∀ (fn : Fn) (first cap : Array Value) (w : World), (Instr.makeFunc fn first cap).run Try.prog w = .ok (.func fn first cap) w := fun _ _ _ _ => rfl
  have HX := Lib.hid (fun n W (h0 : 0 ≤ n) (hb : Below w.heap.size w W) hp0 hp1 hbp hc hbc => fit1_any t p n cs a cap w.heap.size (w.heap.size + 1) W h0 hcl hl (hx.keep hb) hp0 hp1 hbp hc hbc)
  have HS0 : Hid (solA t p cs = (upL 1 60).filter (allF t p cs)) := Lib.hid rfl
  obtain ⟨K, hK⟩ : ∃ K, cs.length = K := ⟨_, rfl⟩
  rw [hK] at HX ⊢
  have HB := Lib.hid (((below_new w (.cells #[.int .i64 t, .int .i64 p, u] 34)).trans (((below_new _ (.cells #[.slice a K cap] 32))).mono (by simp))))
  have HP0 : Hid (Bz ((w.alloc (.cells #[.int .i64 t, .int .i64 p, u] 34)).alloc (.cells #[.slice a K cap] 32)) w.heap.size t p u) := Lib.hid ((Bz.new _ _ _ _ _).grow _)
  have HP1 : Hid (((w.alloc (.cells #[.int .i64 t, .int .i64 p, u] 34)).alloc (.cells #[.slice a K cap] 32)).cell? ⟨w.heap.size + 1, 0, none⟩ = some (.slice a K cap)) := Lib.hid (by go_simp)
  clear hcl hl hx hK
  go_enter Try.func42, Try.ntmps42
  go_wp2_with fail
  refine (countUp_any 1 60 60 _ (by omega) (by omega) (by omega) (by omega)).mono ?_
  rintro e w2 ⟨v2, rfl, hr2, hb2⟩
  have HP2 := Lib.hid (HP0.out.kept hb2)
  have HC2 := Lib.hid ((hb2.cell (p := ⟨w.heap.size + 1, 0, none⟩) (by simp)).trans HP1.out)
  have HB2 := Lib.hid (HB.out.trans (hb2.mono HB.out.size))
  have HZ2 : Hid (w.heap.size + 1 < w2.heap.size) := Lib.hid (by have := hb2.size; simp at this; omega)
  have HS : Hid (Calls Try.prog 44 #[v2, .func (.func 81) #[] #[.pointer (some ⟨w.heap.size + 1, 0, none⟩), .pointer (some ⟨w.heap.size, 0, none⟩)]] w2 fun e w' => ∃ v', e = .returned v' ∧ IntsAt w' w2.heap.size v' ((upL 1 60).filter (allF t p cs)) ∧ Below w2.heap.size w2 w' ∧ Touch 0 0 w2 w') := Lib.hid (by
    refine sieve_any _ #[.pointer (some ⟨w.heap.size + 1, 0, none⟩), .pointer (some ⟨w.heap.size, 0, none⟩)] (upL 1 60) (allF t p cs) (fun _ W => Below w2.heap.size w2 W) 0 0 v2 w2 _ (enters_of Try.func81 (by kernel_rfl) rfl) (by rw [upL_length]; omega) hr2 (Nat.zero_le _) (Nat.zero_le _) (Nat.le_refl _) ?_ (Below.refl _ _) ?_
    · rintro j W W' h2 hs hb
      exact h2.trans hb
    · rintro j W hj h2 hs
      rw [upL_length] at hj
      rw [upL_at _ hj]
      have hq := HP2.out.kept h2
      refine (HX.out _ W (by omega) (HB2.out.trans (h2.mono HB2.out.size)) hq.1.1 hq.1.2.1 hq.2 ((h2.cell (p := ⟨w.heap.size + 1, 0, none⟩) HZ2.out).trans HC2.out) (Nat.lt_of_lt_of_le HZ2.out h2.size)).mono ?_
      rintro e W' ⟨rfl, hb⟩
      exact ⟨rfl, h2.trans (hb.mono h2.size), Touch.of_below hb⟩)
  clear hr2 hb2
  go_wp2_with fail
  refine HS.out.mono ?_
  rintro e w3 ⟨v3, rfl, hr3, hb3, _⟩
  have HR3 := Lib.hid hr3
  have HB3 := Lib.hid (HB2.out.trans (hb3.mono HB2.out.size))
  clear hr3 hb3
  go_wp2_with fail
  go_ret
  exact ⟨_, rfl, by rw [HS0.out]; exact ownsRow_base HR3.out HB2.out.size, HB3.out⟩
end Go.Proofs.Ytjnghlnhogalbaa
