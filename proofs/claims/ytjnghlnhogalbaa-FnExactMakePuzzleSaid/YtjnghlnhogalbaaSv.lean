/-
  'countUp', 'sieve' at integers, of the program: for whatever function it is given.
-/
import Derived.Test.YtjnghlnhogalbaaOwn
import Derived.Test.YtjnghlnhogalbaaIntRows
import Derived.Test.YtjnghlnhogalbaaTouch
import Derived.OwnWalk
import Derived.RangeFuncBox
namespace Go.Proofs.Ytjnghlnhogalbaa
open Go.RowKit
set_option linter.unusedVariables false

/-- a, a + 1, ..: n numbers. -/
def upL (a : Int) (n : Nat) : List Int := (List.range n).map fun (i : Nat) => a + (i : Int)
theorem upL_length (a : Int) (n : Nat) : (upL a n).length = n := by simp [upL]
theorem upL_succ (a : Int) (n : Nat) : upL a (n + 1) = upL a n ++ [a + (n : Int)] := by simp [upL, List.range_succ]
theorem upL_at (a : Int) {n j : Nat} (h : j < n) : (upL a n).getD j 0 = a + (j : Int) := by
  unfold upL
  rw [List.getD_eq_getElem?_getD, List.getElem?_map, List.getElem?_range h]
  rfl

set_option maxRecDepth 100000 in
set_option maxHeartbeats 2000000 in
theorem countUp_any (a : Int) (n : Nat) (b : Int) (w : World) (hb : b = a + (n : Int) - 1) (ha0 : -1000 ≤ a) (ha1 : a ≤ 1) (hn : n ≤ 5000) :
    Calls Try.prog 45 #[.int .i64 a, .int .i64 b] w fun e w' => ∃ v, e = .returned v ∧ IntsAt w' w.heap.size v (upL a n) ∧ Below w.heap.size w w' := by
  obtain ⟨i0, hi, hi0, hi1, hi2⟩ := info_parts info3
  have HS := Lib.hid (fun j => upL_succ a j)
  have HL := Lib.hid (fun j => upL_length a j)
  have HZ : Hid (IntsAt w w.heap.size (.slice none 0 0) (upL a 0)) := Lib.hid (intsAt_nil _ _)
  have hb1 : b ≤ 5001 := by omega
  have HBB := Lib.hid hb
  have HN := Lib.hid hn
  clear hb hn
  go_enter Try.func45, Try.ntmps45
  go_wp2_with fail
  go_loopw [5, 6] (fun v x wr => ∃ j : Nat, j ≤ n ∧ x = .int .i64 (a + (j : Int)) ∧ IntsAt wr w.heap.size v (upL a j) ∧ Below w.heap.size w wr) (fun _ x _ => n + 1 - ((RowKit.intOf x) - a).toNat)
  case atStart => exact ⟨0, Nat.zero_le _, by simp, HZ.out, Below.refl _ _⟩
  case round =>
    obtain ⟨j, hj, rfl, hrow, hbel⟩ := hrel
    have HO := Lib.hid hrow
    have HB := Lib.hid hbel
    have hsz := hbel.size
    clear hrow hbel
    by_cases hlt : j < n
    · have hle : a + (j : Int) ≤ b := by have := HBB.out; omega
      have hjn : j ≤ 5000 := by have := HN.out; omega
      have hjl := upL_length a j
      have hj2 : (upL a j).length + 1 ≤ maxLen := by rw [upL_length]; unfold maxLen; omega
      go_wp2_with (at_builtin; refine wpList_append_own _ rfl _ _ 28 rfl w.heap.size 3 i0 (.int .i64 0) 1 8 Try.underlying28 hi hi0 hi1 hi2 rfl (by decide) _ _ _ rfl (HO.out.alloc _) ⟨wr.heap.size, 0, none⟩ 1 1 [.int .i64 (a + (j : Int))] rfl rfl ?_ ?_ ?_ ?_ ?_ ?_; rotate_right; intro v' w2 hown hgrow _)
      · refine ⟨⟨j + 1, hlt, by go_num, ?_, HB.out.trans (((Below.refl w.heap.size wr).alloc hsz _).grown hgrow (by simp; omega) (fun k e => (HO.out.lt k e).1))⟩, by simp [RowKit.intOf]; omega⟩
        unfold IntsAt
        rw [HS.out, List.map_append, List.length_append]
        exact hown
      · exact fun j u hu => new_cell _ _ _ hu
      · simp [Value.oneCell']
      · exact hj2
      · omega
      · simp; omega
    · have HJ : Hid (j = n) := Lib.hid (by omega)
      have hle : ¬ (a + (j : Int) ≤ b) := by have := HBB.out; omega
      clear hlt hj
      go_wp2_with fail
      go_ret
      have h := HO.out
      rw [HJ.out] at h
      exact ⟨_, rfl, h, HB.out⟩

theorem filter_snoc_yes {xs : List Int} {g : Int → Bool} {j : Nat} (h : j < xs.length) (hg : g (xs.getD j 0) = true) : (xs.take (j + 1)).filter g = (xs.take j).filter g ++ [xs.getD j 0] := by
  have e : xs.take (j + 1) = xs.take j ++ [xs.getD j 0] := by
    rw [List.take_succ_eq_append_getElem h, List.getD_eq_getElem?_getD, List.getElem?_eq_getElem h]; rfl
  rw [e, List.filter_append]
  simp only [List.filter_cons, hg, if_true, List.filter_nil]
theorem filter_snoc_no {xs : List Int} {g : Int → Bool} {j : Nat} (h : j < xs.length) (hg : g (xs.getD j 0) = false) : (xs.take (j + 1)).filter g = (xs.take j).filter g := by
  have e : xs.take (j + 1) = xs.take j ++ [xs.getD j 0] := by
    rw [List.take_succ_eq_append_getElem h, List.getD_eq_getElem?_getD, List.getElem?_eq_getElem h]; rfl
  rw [e, List.filter_append]
  simp only [List.filter_cons, hg, Bool.false_eq_true, if_false, List.filter_nil, List.append_nil]
theorem filter_take_le (xs : List Int) (g : Int → Bool) (j : Nat) : ((xs.take j).filter g).length ≤ xs.length :=
  Nat.le_trans (List.length_filter_le _ _) (by rw [List.length_take]; omega)

theorem IntsAt.touch {lo up B : Nat} {W W' : World} {v : Value} {xs : List Int} (h : IntsAt W B v xs) (ht : Touch lo up W W') (hB : up ≤ B) : IntsAt W' B v xs := by
  obtain ⟨h1, h2⟩ := h
  refine ⟨h1, ?_⟩
  rcases h2 with h2 | ⟨g, cap, cur, h3, h4, h5, h6⟩
  · exact .inl h2
  · exact .inr ⟨g, cap, cur, h3, h4, (ht.block g (Array.getElem?_eq_some_iff.1 h5).1 (.inr (by omega))).trans h5, h6⟩

set_option maxRecDepth 100000 in
set_option maxHeartbeats 4000000 in
/-- The function that it is given may turn the blocks lo to up - 1 (up at most w.heap.size), and keeps J. -/
theorem sieve_any (fs : Nat) (caps : Array Value) (xs : List Int) (g : Int → Bool) (J : Nat → World → Prop) (lo up : Nat) (v : Value) (w : World) (B : Nat)
    (hef : ∀ (args : Array Value) (w : World), (callFunc fs args).run Try.prog w = .ok (.enter fs args) w)
    (hl : xs.length ≤ 5000) (hv : IntsAt w B v xs) (hB : up ≤ B) (hhi : up ≤ w.heap.size) (hlo : lo ≤ up)
    (hJ : ∀ j W W', J j W → w.heap.size ≤ W.heap.size → Below w.heap.size W W' → J j W')
    (h0 : J 0 w)
    (hG : ∀ j W, j < xs.length → J j W → w.heap.size ≤ W.heap.size → Calls Try.prog fs (#[.int .i64 (xs.getD j 0)] ++ caps) W fun e W' => e = .returned (.bool (g (xs.getD j 0))) ∧ J (j + 1) W' ∧ Touch lo up W W') :
    Calls Try.prog 44 #[v, .func (.func fs) #[] caps] w fun e w' => ∃ v', e = .returned v' ∧ IntsAt w' w.heap.size v' (xs.filter g) ∧ J xs.length w' ∧ Touch lo up w w' := by
  obtain ⟨i0, hi, hi0, hi1, hi2⟩ := info_parts info3
  obtain ⟨a, cap, rfl⟩ := hv.form
  have hcell : ∀ j, j < xs.length → ∃ g, a = some ⟨g, 0, none⟩ ∧ B ≤ g ∧ g < w.heap.size ∧ w.cell? ⟨g, j, none⟩ = some (.int .i64 (xs.getD j 0)) := by
    intro j hj
    rcases hv.cases with ⟨_, h⟩ | ⟨g, cap', e, h1, h2, _, h4⟩
    · rw [h] at hj; simp at hj
    · simp only [Value.slice.injEq] at e
      obtain ⟨rfl, _, _⟩ := e
      exact ⟨g, rfl, h1, h2, (h4 j hj).1⟩
  have HC := Lib.hid hcell
  have HJ := Lib.hid hJ
  have HG := Lib.hid hG
  have H0 := Lib.hid h0
  have HYES := Lib.hid (fun j (h : j < xs.length) (hg : g (xs.getD j 0) = true) => filter_snoc_yes h hg)
  have HNO := Lib.hid (fun j (h : j < xs.length) (hg : g (xs.getD j 0) = false) => filter_snoc_no h hg)
  have HLE := Lib.hid (fun j => filter_take_le xs g j)
  have HFULL : Hid ((xs.take xs.length).filter g = xs.filter g) := Lib.hid (by rw [List.take_length])
  have HL := Lib.hid hl
  have hl2 : (xs.length : Int) ≤ 5000 := by omega
  have HLO := Lib.hid hlo
  have HHI := Lib.hid hhi
  have HBH := Lib.hid hB
  clear hcell hJ hG h0 hv hl hlo hhi hB
  obtain ⟨K, hK⟩ : ∃ K, xs.length = K := ⟨_, rfl⟩
  rw [hK] at HC HG HYES HNO HLE HFULL HL hl2 ⊢
  clear hK
  have HN0 : Hid (IntsAt w w.heap.size (.slice none 0 0) ((xs.take 0).filter g)) := Lib.hid (intsAt_nil _ _)
  go_enter Try.func44, Try.ntmps44
  go_wp2_with fail
  go_loopw [5, 7, 10] (fun v _ x wr => ∃ j : Nat, j ≤ K ∧ x = .int .i64 (j : Int) ∧ IntsAt wr w.heap.size v ((xs.take j).filter g) ∧ J j wr ∧ Touch lo up w wr) (fun _ _ x _ => K - (RowKit.intOf x).toNat)
  case atStart => exact ⟨0, Nat.zero_le _, rfl, HN0.out, H0.out, Touch.refl _ _ _⟩
  case round =>
    clear HN0 H0
    obtain ⟨j, hj, rfl, hrow, hJj, htch⟩ := hrel
    have HO := Lib.hid hrow
    have HT := Lib.hid htch
    have hsz := htch.size
    have HJJ := Lib.hid hJj
    clear hrow htch hJj
    by_cases hlt : j < K
    · obtain ⟨gb, rfl, hgB, hgl, q0⟩ := HC.out j hlt
      have q : wr.cell? ⟨gb, j, none⟩ = some (.int .i64 (xs.getD j 0)) := (World.cell?_of_block (a := ⟨gb, j, none⟩) (HT.out.block gb hgl (by have := HBH.out; omega))).trans q0
      have hlt2 : (j : Int) < (K : Int) := by omega
      have HGJ := Lib.hid (HG.out j wr hlt HJJ.out hsz)
      have HYJ := Lib.hid (HYES.out j hlt)
      have HNJ := Lib.hid (HNO.out j hlt)
      have hlen := HLE.out j
      obtain ⟨x, hx⟩ : ∃ x, x = xs.getD j 0 := ⟨_, rfl⟩
      rw [← hx] at q HGJ HYJ HNJ
      clear hx q0
      cases hgx : g x
      · have HN2 := Lib.hid (HNJ.out hgx)
        rw [hgx] at HGJ
        clear hgx HYJ HNJ
        go_wp2_with fail
        refine HGJ.out.mono ?_
        rintro e w2 ⟨rfl, hJ2, ht2⟩
        have HO2 := Lib.hid (HO.out.touch ht2 HHI.out)
        have HJ2 := Lib.hid hJ2
        have HT2 := Lib.hid (HT.out.trans ht2)
        clear hJ2 ht2
        go_wp2_with fail
        exact ⟨⟨j + 1, hlt, by go_num, by rw [HN2.out]; exact HO2.out, HJ2.out, HT2.out⟩, by simp [RowKit.intOf]; omega⟩
      · have HY2 := Lib.hid (HYJ.out hgx)
        rw [hgx] at HGJ
        clear hgx HYJ HNJ
        go_wp2_with fail
        refine HGJ.out.mono ?_
        rintro e w2 ⟨rfl, hJ2, ht2⟩
        have hsz2 := Nat.le_trans hsz ht2.size
        have HO2 := Lib.hid (HO.out.touch ht2 HHI.out)
        have HJ2 := Lib.hid hJ2
        have HT2 := Lib.hid (HT.out.trans ht2)
        clear hJ2 ht2
        obtain ⟨l, hl⟩ : ∃ l, l = (xs.take j).filter g := ⟨_, rfl⟩
        rw [← hl] at HO2 HY2 hlen
        have hll : l.length ≤ 5000 := by have := HL.out; omega
        have hj2 : l.length + 1 ≤ maxLen := by unfold maxLen; omega
        clear hl hlen
        go_wp2_with (at_builtin; refine wpList_append_own _ rfl _ _ 28 rfl w.heap.size 3 i0 (.int .i64 0) 1 8 Try.underlying28 hi hi0 hi1 hi2 rfl (by decide) _ _ _ rfl (HO2.out.alloc _) ⟨w2.heap.size, 0, none⟩ 1 1 [.int .i64 x] rfl rfl ?_ ?_ ?_ ?_ ?_ ?_; rotate_right; intro v' w3 hown hgrow _)
        · have hbg : Below w.heap.size w2 w3 := ((Below.refl w.heap.size w2).alloc hsz2 _).grown hgrow (by simp; omega) (fun k e => (HO2.out.lt k e).1)
          refine ⟨⟨j + 1, hlt, by go_num, ?_, HJ.out _ _ _ HJ2.out hsz2 hbg, ⟨hbg.os.trans HT2.out.os, hbg.tape.trans HT2.out.tape, hbg.output.trans HT2.out.output, Nat.le_trans HT2.out.size hbg.size, fun k hk hr => (hbg.block k hk).trans (HT2.out.block k hk hr)⟩⟩, by simp [RowKit.intOf]; omega⟩
          unfold IntsAt
          rw [HY2.out, List.map_append, List.length_append]
          exact hown
        · exact fun j u hu => new_cell _ _ _ hu
        · simp [Value.oneCell']
        · exact hj2
        · omega
        · simp; omega
    · have HJ2 : Hid (j = K) := Lib.hid (by omega)
      have hlt2 : ¬ ((j : Int) < (K : Int)) := by omega
      clear hlt hj
      go_wp2_with fail
      go_ret
      have h := HO.out
      rw [HJ2.out, HFULL.out] at h
      exact ⟨_, rfl, h, by have := HJJ.out; rw [HJ2.out] at this; exact this, HT.out⟩
end Go.Proofs.Ytjnghlnhogalbaa
