/-
  'FallenResidues' of the model (gen_fr2.py).
-/
import Derived.Test.YtgobjobppajkbaaDoorFrM
import Derived.Test.YtgobjobppajkbaaDoorRsf
import Derived.Test.YtgobjobppajkbaaDoorRsp
import Derived.Test.YtgobjobppajkbaaDoorLine
import Derived.Test.YtgobjobppajkbaaDoorWoOf
namespace Go.Proofs.YtgobjobppajkbaaDoor
open Go.RowKit
set_option linter.unusedVariables false

/-- A row of rows of three and a flag. -/
def RetTris (rs : List Z3) (ok : Bool) (w : World) (e : Ending) (w' : World) : Prop := ∃ v, e = .returned (.tuple #[v, .bool ok]) ∧ TrisAt w' w.heap.size v rs ∧ Below w.heap.size w w'
theorem retT_none {xs : List Z3} {ok : Bool} {w w' : World} (h : xs = []) (h' : ok = false) (hb : Below w.heap.size w w') : RetTris xs ok w (.returned (.tuple #[.slice none 0 0, .bool false])) w' := by
  subst h h'
  exact ⟨_, rfl, trisAt_nil _ _, hb⟩
theorem frA_no {t p k : Int} (h : frB t p k = false) : frA t p k = [] := by rw [frA, if_neg (by rw [h]; simp)]
theorem kept_tris {w w' : World} {B : Nat} {bs : List Nat} {rs : List Z3} (hb : Below w.heap.size w w') (h : ∀ (k b : Nat), bs[k]? = some b → B ≤ b ∧ b < w.heap.size ∧ TriAt w b (rs.getD k (0, 0, 0))) : ∀ (k b : Nat), bs[k]? = some b → B ≤ b ∧ b < w'.heap.size ∧ TriAt w' b (rs.getD k (0, 0, 0)) := fun k b hk => by
  obtain ⟨a1, a2, a3⟩ := h k b hk
  exact ⟨a1, Nat.lt_of_lt_of_le a2 hb.size, a3.of (hb.block b a2)⟩

set_option maxRecDepth 100000 in
set_option maxHeartbeats 4000000 in
theorem sFallenResidues (t p k : Int) (w : World) :
    Calls Tryd.prog 8 #[.agg #[.int .i64 t, .int .i64 p], .int .i64 k] w (RetTris (frA t p k) (frB t p k) w) := by
  have HR := Lib.hid (fun w => rsPower_any t p k 12 w)
  cases ha : (goodB t p && inB k 0 12)
  · have HY := Lib.hid (frA_no (t := t) (p := p) (k := k) (by rw [frB, ha]; rfl))
    have HA : Hid (frB t p k = false) := Lib.hid (by rw [frB, ha]; rfl)
    rw [ha] at HR
    clear ha
    go_enter Tryd.func8, Tryd.ntmps8
    go_wp2_with fail
    refine (HR.out _).mono ?_
    rintro e w1 ⟨rfl, hb1⟩
    obtain ⟨c0, c1, hz, hb⟩ := map_block hb1
    clear hb1
    go_wp2_with fail
    go_ret2
    exact retT_none HY.out HA.out hb
  by_cases hk0 : k = 0
  · have HA : Hid (frB t p k = false) := Lib.hid (by rw [frB, hk0]; simp)
    have HY := Lib.hid (frA_no HA.out)
    rw [ha] at HR
    clear ha
    subst hk0
    go_enter Tryd.func8, Tryd.ntmps8
    go_wp2_with fail
    refine (HR.out _).mono ?_
    rintro e w1 ⟨rfl, hb1⟩
    obtain ⟨c0, c1, hz, hb⟩ := map_block hb1
    clear hb1
    go_wp2_with fail
    go_ret2
    exact retT_none HY.out HA.out hb
  have hB : frB t p k = true := by rw [frB, ha]; simpa using hk0
  obtain ⟨hg, K, rfl, hK1, hK⟩ := frB_nat hB
  have HY : Hid (frA t p K = frL t p K (2 ^ K)) := Lib.hid (by rw [frA, if_pos hB]; rfl)
  have HA := Lib.hid hB
  obtain ⟨pw1, pw0⟩ := pow2_le (k := K) (by omega)
  have hwr : IntKind.i64.wrap ((2 : Int) ^ K) = 2 ^ K := by rw [IntKind.wrap_i64]; omega
  have hNN : ((2 : Int) ^ K) = ((2 ^ K : Nat) : Int) := by simp
  have hn4 := pow2F hK
  have HQ : Hid (∀ j : Nat, j < 2 ^ K → (j : Int) < 2 ^ K) := Lib.hid (fun j h => by rw [hNN]; omega)
  have HWB : Hid (∀ j : Nat, wordB (wby (wrd t p j K)) = true ∧ (wby (wrd t p j K)).size = K) := Lib.hid (fun j => ⟨wordB_iff.2 ⟨by rw [wbyS_size, wrd_length]; omega, signs_wrd t p j K⟩, by rw [wbyS_size, wrd_length]⟩)
  obtain ⟨n, hN⟩ : ∃ n : Nat, n = 2 ^ K := ⟨_, rfl⟩
  rw [← hN] at hNN HY hn4 HQ
  have hn : (n : Int) ≤ 5000 := by omega
  have HNN := Lib.hid hNN
  rw [hNN] at hwr
  have HWR := Lib.hid hwr
  have HW := Lib.hid (fun (j : Nat) (h : j ≤ 5000) w => woOf_any t p (j : Int) K w hg (by omega) (by omega) (by omega))
  have HF := Lib.hid (fun (j : Nat) w => rsFall_any t p j K w hg (by omega))
  have HL : Hid (∀ (j : Nat) W, Calls Tryd.prog 36 #[.agg #[.int .i64 t, .int .i64 p], .string (wby (wrd t p j K))] W fun e w' => e = .returned (.tuple #[.int .i64 (lin t p (wrd t p j K) K).1, .int .i64 (lin t p (wrd t p j K) K).2.1, .int .i64 (lin t p (wrd t p j K) K).2.2]) ∧ Below W.heap.size W w') := Lib.hid (fun j W => by
    have h := woLine_any t p (wby (wrd t p j K)) W hg (HWB.out j).1
    rw [(HWB.out j).2] at h
    exact h)
  have HLE := Lib.hid (fun j => frL_len t p K j)
  have HYES := Lib.hid (fun (j : Nat) (h : fa t p j K = K) => frL_yes hg h)
  have HNO := Lib.hid (fun (j : Nat) (h : fa t p j K ≠ K) => frL_no (t := t) (p := p) h)
  have HZ : Hid (∀ W B, TrisAt W B (.slice none 0 0) (frL t p K 0)) := Lib.hid (fun W B => trisAt_nil _ _)
  have hKi : (K : Int) ≤ 12 := by omega
  have hk1 : ¬ ((K : Int) = 0) := by omega
  have hkb : ((K : Int) == 0) = false := by simp; omega
  rw [ha] at HR
  obtain ⟨i0, hi, hi0, hi1, hi2⟩ := info_parts info36T
  clear ha hg pw0 pw1 hN hn4 hB hk0 HWB HQ
  go_enter Tryd.func8, Tryd.ntmps8
  go_wp2_with fail
  refine (HR.out _).mono ?_
  rintro e w1 ⟨rfl, hb1⟩
  obtain ⟨c0, c1, hz, hb⟩ := map_block hb1
  have HB := Lib.hid hb
  clear hb1 hb
  go_wp2_with fail
  go_loopw [6, 7] (fun v x wr => ∃ j : Nat, j ≤ n ∧ x = .int .i64 (j : Int) ∧ TrisAt wr (w.heap.size + 1) v (frL t p K j) ∧ wr.cell? ⟨w.heap.size, 0, none⟩ = some (.int .i64 t) ∧ wr.cell? ⟨w.heap.size, 1, none⟩ = some (.int .i64 p) ∧ w.heap.size < wr.heap.size ∧ Below w.heap.size w wr) (fun _ x _ => n - (RowKit.intOf x).toNat)
  case atStart => exact ⟨0, Nat.zero_le _, rfl, HZ.out _ _, c0, c1, hz, HB.out⟩
  case round =>
    clear c0 c1 HB hz
    obtain ⟨j, hj, rfl, hrow, c0, c1, hz, hbel⟩ := hrel
    have HB := Lib.hid hbel
    by_cases hlt : j < n
    · have hle : (j : Int) < (n : Int) := by omega
      have hj0 : (0 : Int) ≤ (j : Int) := by omega
      have HWJ := Lib.hid (fun w => HW.out j (by omega) w)
      have HFJ := Lib.hid (fun w => HF.out j w)
      have HLJ := Lib.hid (fun w => HL.out j w)
      have hlen := HLE.out j
      have HYJ := Lib.hid (HYES.out j)
      have HNJ := Lib.hid (HNO.out j)
      generalize (lin t p (wrd t p j K) K).1 = x1 at *
      generalize (lin t p (wrd t p j K) K).2.1 = x2 at *
      generalize (lin t p (wrd t p j K) K).2.2 = x3 at *
      generalize wby (wrd t p j K) = s at HWJ HFJ HLJ
      obtain ⟨l, hl⟩ : ∃ l, l = frL t p K j := ⟨_, rfl⟩
      rw [← hl] at hrow HYJ HNJ hlen
      have HROW := Lib.hid hrow
      have hll : l.length ≤ 5000 := by omega
      clear hl hlen hrow hbel
      by_cases hfa : fa t p j K = K
      · have HL2 := Lib.hid (HYJ.out hfa)
        rw [hfa] at HFJ
        have hwr := HWR.out
        have hp2 := HNN.out
        clear hfa HYJ HNJ
        go_wp2_with fail
        refine (HWJ.out _).mono ?_
        rintro e w2 ⟨rfl, hb2⟩
        have d0 := kept_cell hb2 hz c0
        have d1 := kept_cell hb2 hz c1
        have hz2 := Nat.lt_of_lt_of_le hz hb2.size
        go_wp2_with fail
        refine (HFJ.out _).mono ?_
        rintro e w3 ⟨rfl, hb3⟩
        have e0 := kept_cell hb3 hz2 d0
        have e1 := kept_cell hb3 hz2 d1
        have hz3 := Nat.lt_of_lt_of_le hz2 hb3.size
        clear d0 d1
        go_wp2_with fail
        refine (HLJ.out _).mono ?_
        rintro e w4 ⟨rfl, hb4⟩
        have g0 := kept_cell hb4 hz3 e0
        have g1 := kept_cell hb4 hz3 e1
        have hz4 := Nat.lt_of_lt_of_le hz3 hb4.size
        have hb24 : Below wr.heap.size wr w4 := hb2.trans ((hb3.mono hb2.size).trans (hb4.mono (Nat.le_trans hb2.size hb3.size)))
        have HROW4 := HROW.out.kept hb24
        obtain ⟨bs, h1, h2, h3, h4⟩ := HROW4
        have H1 := Lib.hid h1
        have H234 := Lib.hid (And.intro h2 (And.intro h3 h4))
        have HB4 := Lib.hid (HB.out.trans (hb24.mono (Nat.le_of_lt hz)))
        have HZB : Hid (w.heap.size + 1 ≤ w4.heap.size) := Lib.hid hz4
        have hj2 : l.length + 1 ≤ maxLen := by unfold maxLen; omega
        have HG := Lib.hid (And.intro g0 g1)
        clear hb2 hb3 hb4 hb24 h1 h2 h3 h4 e0 e1 g0 g1 c0 c1
        go_wp2_with (at_builtin; refine wpList_append_own _ rfl _ _ 24 rfl (w.heap.size + 1) 32 i0 (.slice none 0 0) 1 24 Tryd.underlying24 hi hi0 hi1 hi2 rfl (by decide) _ _ _ rfl ((H1.out.alloc _).alloc _) ⟨w4.heap.size + 1, 0, none⟩ 1 1 [slT w4.heap.size] rfl rfl (fun j u hu => new_cell_at3 _ _ _ (by simp) hu) (by simp [Value.oneCell', slT]) hj2 (by omega) (by simp; omega) ?_; intro v5 w5 hown5 hgrow5 _)
        have hb3 : Below w4.heap.size w4 ((w4.alloc (.cells #[.int .i64 (j : Int), .int .i64 x1, .int .i64 x2] 3)).alloc (.cells #[slT w4.heap.size] 32)) := ((Below.refl _ w4).alloc (Nat.le_refl _) _).alloc (by simp) _
        have hpn : TriAt ((w4.alloc (.cells #[.int .i64 (j : Int), .int .i64 x1, .int .i64 x2] 3)).alloc (.cells #[slT w4.heap.size] 32)) w4.heap.size ((j : Int), x1, x2) :=
          (tri_new w4 (j : Int) x1 x2 3).of (((Below.refl (w4.heap.size + 1) _).alloc (by simp) _).block _ (by omega))
        have hpr := tris_snoc (rs := l) H1.out H234.out.1 H234.out.2.1 H234.out.2.2 hb3 HZB.out (Nat.le_refl _) (by simp; omega) hpn hown5 hgrow5
        have hbg : Below (w.heap.size + 1) w4 w5 := (hb3.mono HZB.out).grown hgrow5 (by simp; omega) (fun k e => (World.ownsRow.lt H1.out k e).1)
        exact ⟨⟨j + 1, hlt, by go_num, by rw [HL2.out]; exact hpr, (hbg.cell (p := ⟨w.heap.size, 0, none⟩) (Nat.lt_succ_self _)).trans HG.out.1, (hbg.cell (p := ⟨w.heap.size, 1, none⟩) (Nat.lt_succ_self _)).trans HG.out.2, Nat.lt_of_lt_of_le hz4 hbg.size, HB4.out.trans (hbg.mono (Nat.le_succ _))⟩, by simp [RowKit.intOf]; omega⟩
      · have HL2 := Lib.hid (HNJ.out hfa)
        have hA2 : ¬ (((fa t p j K : Nat) : Int) = (K : Int)) := by omega
        generalize fa t p j K = A at HFJ hA2
        have hwr := HWR.out
        have hp2 := HNN.out
        clear hfa HYJ HNJ
        go_wp2_with fail
        refine (HWJ.out _).mono ?_
        rintro e w2 ⟨rfl, hb2⟩
        have d0 := kept_cell hb2 hz c0
        have d1 := kept_cell hb2 hz c1
        have hz2 := Nat.lt_of_lt_of_le hz hb2.size
        go_wp2_with fail
        refine (HFJ.out _).mono ?_
        rintro e w3 ⟨rfl, hb3⟩
        have e0 := kept_cell hb3 hz2 d0
        have e1 := kept_cell hb3 hz2 d1
        have hz3 := Nat.lt_of_lt_of_le hz2 hb3.size
        have hb24 : Below wr.heap.size wr w3 := hb2.trans (hb3.mono hb2.size)
        have HROW4 := Lib.hid (HROW.out.kept hb24)
        have HB4 := Lib.hid (HB.out.trans (hb24.mono (Nat.le_of_lt hz)))
        have HG := Lib.hid (And.intro e0 e1)
        clear hb2 hb3 hb24 e0 e1 c0 c1 d0 d1
        go_wp2_with fail
        exact ⟨⟨j + 1, hlt, by go_num, by rw [HL2.out]; exact HROW4.out, HG.out.1, HG.out.2, hz3, HB4.out⟩, by simp [RowKit.intOf]; omega⟩
    · obtain rfl : j = n := by omega
      have hle : ¬ ((j : Int) < (j : Int)) := by omega
      have HROW := Lib.hid hrow
      have hwr := HWR.out
      have hp2 := HNN.out
      clear hrow hbel
      go_wp2_with fail
      go_ret2
      rw [HY.out, HA.out]
      exact ⟨_, rfl, HROW.out.base (Nat.le_succ _), HB.out⟩
end Go.Proofs.YtgobjobppajkbaaDoor
