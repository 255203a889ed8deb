/-
  'ResiduesNever' of the model.
-/
import Derived.Test.YtpfclanblcngfaaNvM
namespace Go.Proofs.Ytpfclanblcngfaa
open Go.RowKit
set_option linter.unusedVariables false

theorem info4 : (Try.prog.info? 4).map (fun i => (i.zero, i.size, i.bytes)) = some (some (.bool false), 1, 1) := by kernel_rfl

set_option maxRecDepth 100000 in
set_option maxHeartbeats 4000000 in
theorem sResiduesNever (t p M : Int) (w : World) :
    Calls Try.prog 15 #[.agg #[.int .i64 t, .int .i64 p], .int .i64 M] w (RetInts (nvA t p M) (askN t p M) w) := by
  have HR := Lib.hid (fun w => rsModulus_any t p M w)
  cases ha : askN t p M
  · rw [show (goodB t p && inB M 1 60) = false from ha] at HR
    have HY := Lib.hid (nvA_no ha)
    clear ha
    go_enter Try.func15, Try.ntmps15
    go_wp2_with fail
    refine (HR.out _).mono ?_
    rintro e w1 ⟨rfl, hb1⟩
    obtain ⟨c0, c1, hz, hb⟩ := map_block hb1
    clear hb1
    go_wp2_with fail
    go_ret2
    exact retI_none HY.out rfl hb
  · rw [show (goodB t p && inB M 1 60) = true from ha] at HR
    obtain ⟨hg, hm1, hm2⟩ : goodB t p = true ∧ 1 ≤ M ∧ M ≤ 60 := by simpa [askN, inB] using ha
    obtain ⟨K, rfl⟩ : ∃ K : Nat, M = (K : Int) := ⟨M.toNat, by omega⟩
    have HY : Hid (nvA t p K = nvJ (hitL t p K K) K) := Lib.hid (nvA_yes ha)
    have HNX := Lib.hid (fun (j : Nat) (h : j < K) w => rsNext_any t p K (j : Int) w hg hm1 hm2 (by omega) (by omega))
    have HSU := Lib.hid (hitL_succ t p K)
    have HB0 : Hid (hitL t p K 0 = []) := Lib.hid rfl
    clear ha hg
    obtain ⟨i0, hi, hi0, hi1, hi2⟩ := info_parts info4
    obtain ⟨j0, hj, hj0, hj1, hj2⟩ := info_parts info3
    go_enter Try.func15, Try.ntmps15
    go_wp2_with fail
    refine (HR.out _).mono ?_
    rintro e w1 ⟨rfl, hb1⟩
    obtain ⟨c0, c1, hz, hb⟩ := map_block hb1
    have HB1 := Lib.hid hb
    clear hb1 hb
    go_wp2_with (at_make; refine wpList_make_full _ rfl _ _ 50 rfl w1.heap.size 4 i0 (.bool false) 1 Try.underlying50 hi hi0 hi1 .i64 .i64 K K K rfl rfl rfl rfl ?c1 ?c2 ?c3 ?_; rotate_right; intro w3 hown3 hgrow3)
    case c1 => rw [hi2]; omega
    case c2 => unfold maxLen; omega
    case c3 => simp
    have HB3 := Lib.hid (HB1.out.grown hgrow3 HB1.out.size (fun k e => by simp at e))
    have hb3 : Below w1.heap.size w1 w3 := (Below.refl _ w1).grown hgrow3 (Nat.le_refl _) (fun k e => by simp at e)
    have d0 := kept_cell hb3 hz c0
    have d1 := kept_cell hb3 hz c1
    have HO3 : Hid (w3.ownsRow w1.heap.size 4 1 (.slice (some ⟨w1.heap.size, 0, none⟩) K K) K (bitsL K (hitL t p K 0))) := Lib.hid (by
      rw [HB0.out, bitsL_nil]
      have := hown3
      rw [show (Value.bool false).cells = #[Value.bool false] from rfl, Nat.mul_one, toList_madeCells_one] at this
      exact this)
    have hK : K ≤ 60 := by omega
    have hws : w.heap.size < w1.heap.size := hz
    clear c0 c1 hown3 hgrow3 hb3
    go_loopw [21] (fun x wr => ∃ j : Nat, j ≤ K ∧ x = .int .i64 (j : Int) ∧ wr.ownsRow w1.heap.size 4 1 (.slice (some ⟨w1.heap.size, 0, none⟩) K K) K (bitsL K (hitL t p K j)) ∧ wr.cell? ⟨w.heap.size, 0, none⟩ = some (.int .i64 t) ∧ wr.cell? ⟨w.heap.size, 1, none⟩ = some (.int .i64 p) ∧ Below w.heap.size w wr) (fun x _ => K - (RowKit.intOf x).toNat)
    case atStart => exact ⟨0, Nat.zero_le _, rfl, HO3.out, d0, d1, HB3.out⟩
    case round =>
      clear HO3 HB3 d0 d1
      obtain ⟨j, hj, rfl, hown, c0, c1, hb⟩ := hrel
      have HO := Lib.hid hown
      have HB := Lib.hid hb
      obtain ⟨_, hgl⟩ := hown.lt w1.heap.size rfl
      clear hown hb
      by_cases hlt : j < K
      · have hlt2 : (j : Int) < (K : Int) := by omega
        have HNJ := Lib.hid (HNX.out j hlt)
        obtain ⟨hl1, hl2⟩ := nbL_len t p K (j : Int)
        have HME : Hid (∀ x ∈ nbL t p K (j : Int), 0 ≤ x ∧ x < K) := Lib.hid (fun x hx => by
          rcases mem_nbL.1 hx with rfl | rfl <;> exact nb_range (by omega))
        have HEX : Hid (bitsL K (hitL t p K j ++ nbL t p K (j : Int)) = bitsL K (hitL t p K (j + 1))) := Lib.hid (bitsL_ext (fun x => by rw [HSU.out, List.mem_append, List.mem_append, mem_nbL]; simp))
        obtain ⟨S, hS⟩ : ∃ S, hitL t p K j = S := ⟨_, rfl⟩
        obtain ⟨xs, hxs⟩ : ∃ xs, nbL t p K (j : Int) = xs := ⟨_, rfl⟩
        rw [hS] at HO HEX
        rw [hxs] at HNJ HME HEX hl1 hl2
        clear hS hxs
        go_wp2_with fail
        refine (HNJ.out _).mono ?_
        rintro e w2 ⟨v, rfl, hv, hb2⟩
        obtain ⟨g, cap, rfl, hg1, hg2, hg3, hg4, hr⟩ := ints_row hv.isAt (by omega)
        have e0 := kept_cell hb2 (by omega) c0
        have e1 := kept_cell hb2 (by omega) c1
        have HO2 := Lib.hid (ownsRow_kept HO.out hb2)
        have HB2 := Lib.hid (HB.out.trans (hb2.mono HB.out.size))
        have HR2 := Lib.hid hr
        have hgs := hb2.size
        clear hb2 hv hr c0 c1
        obtain ⟨L, hL⟩ : ∃ L, xs.length = L := ⟨_, rfl⟩
        have HL := Lib.hid hL
        rw [hL] at hl1 hl2 hg3 ⊢
        clear hL
        go_wp2_with fail
        have HR0 : Hid (w2.ownsRow w1.heap.size 4 1 (.slice (some ⟨w1.heap.size, 0, none⟩) K K) K (bitsL K (S ++ xs.take 0))) := Lib.hid (by rw [List.take_zero, List.append_nil]; exact HO2.out)
        have hgne : g ≠ w1.heap.size := by omega
        go_loopw [29] (fun x wq => ∃ m : Nat, m ≤ L ∧ x = .int .i64 (m : Int) ∧ wq.ownsRow w1.heap.size 4 1 (.slice (some ⟨w1.heap.size, 0, none⟩) K K) K (bitsL K (S ++ xs.take m)) ∧ IntRow wq g xs ∧ wq.cell? ⟨w.heap.size, 0, none⟩ = some (.int .i64 t) ∧ wq.cell? ⟨w.heap.size, 1, none⟩ = some (.int .i64 p) ∧ Below w.heap.size w wq) (fun x _ => L - (RowKit.intOf x).toNat)
        case atStart => exact ⟨0, Nat.zero_le _, rfl, HR0.out, HR2.out, e0, e1, HB2.out⟩
        case round =>
          clear HR0 HR2 e0 e1 HB2 HO2 HO
          obtain ⟨m, hm, rfl, hown, hrow, c0, c1, hb⟩ := hrel
          have HO := Lib.hid hown
          have HB := Lib.hid hb
          have HRW := Lib.hid hrow
          by_cases hlm : m < L
          · have hlm2 : (m : Int) < (L : Int) := by omega
            have hmx : m < xs.length := by rw [HL.out]; exact hlm
            have q := (hrow m hmx).1
            have hxm : xs.getD m 0 ∈ xs := mem_of_at hmx rfl
            obtain ⟨x0, x1⟩ := HME.out _ hxm
            have HTK := Lib.hid (take_snocI hmx)
            obtain ⟨x, hx⟩ : ∃ x, xs.getD m 0 = x := ⟨_, rfl⟩
            rw [hx] at q x0 x1 HTK
            obtain ⟨i, rfl⟩ : ∃ i : Nat, x = (i : Int) := ⟨x.toNat, by omega⟩
            have hiK : i < K := by omega
            have qc : ∃ u, wr.cell? ⟨w1.heap.size, i, none⟩ = some (.bool u) := ⟨_, (World.ownsRow.cellAt hown i (by omega)).trans (bitsL_at _ hiK)⟩
            obtain ⟨u, qc⟩ := qc
            have qf : wr.frozen? ⟨w1.heap.size, i, none⟩ = false := World.ownsRow.frozenAt hown i
            clear hown hb hrow hx hxm
            go_wp2_with fail
            have hst := World.ownsRow.stored HO.out i (.bool true)
            rw [bitsL_set, List.append_assoc, ← HTK.out] at hst
            have f0 := (World.cell?_setCell_other wr ⟨w1.heap.size, i, none⟩ ⟨w.heap.size, 0, none⟩ (.bool true) (by simp <;> omega)).trans c0
            have f1 := (World.cell?_setCell_other wr ⟨w1.heap.size, i, none⟩ ⟨w.heap.size, 1, none⟩ (.bool true) (by simp <;> omega)).trans c1
            exact ⟨⟨m + 1, hlm, by go_num, hst.1, HRW.out.other hgne _, f0, f1, HB.out.setCell (p := ⟨w1.heap.size, i, none⟩) HB1.out.size _⟩, by simp [RowKit.intOf]; omega⟩
          · have HM : Hid (m = L) := Lib.hid (by omega)
            have hlm2 : ¬ ((m : Int) < (L : Int)) := by omega
            clear hlm hm hown hb hrow
            go_wp2_with fail
            have h := HO.out
            rw [HM.out, ← HL.out, List.take_length, HEX.out] at h
            exact ⟨⟨j + 1, hlt, by go_num, h, c0, c1, HB.out⟩, by simp [RowKit.intOf]; omega⟩
      · have HJ : Hid (j = K) := Lib.hid (by omega)
        have hlt2 : ¬ ((j : Int) < (K : Int)) := by omega
        rw [HJ.out] at HO
        have HNY := Lib.hid (fun i => nvJ_yes (S := hitL t p K K) (j := i))
        have HNN := Lib.hid (fun i => nvJ_no (S := hitL t p K K) (j := i))
        have HNL := Lib.hid (fun i => nvJ_len (hitL t p K K) i)
        have HN0 : Hid (nvJ (hitL t p K K) 0 = []) := Lib.hid rfl
        obtain ⟨S, hS⟩ : ∃ S, hitL t p K K = S := ⟨_, rfl⟩
        rw [hS] at HO HNY HNN HNL HN0 HY
        clear hlt hj hS c0 c1
        go_wp2_with fail
        obtain ⟨Wa, rfl⟩ : ∃ Wa, Wa = wr := ⟨_, rfl⟩
        have HZ : Hid (IntsAt Wa Wa.heap.size (.slice none 0 0) (nvJ S 0)) := Lib.hid (by rw [HN0.out]; exact intsAt_nil _ _)
        go_loopw [10, 40] (fun v x wq => ∃ i : Nat, i ≤ K ∧ x = .int .i64 (i : Int) ∧ IntsAt wq Wa.heap.size v (nvJ S i) ∧ Below Wa.heap.size Wa wq) (fun _ x _ => K - (RowKit.intOf x).toNat)
        case atStart => exact ⟨0, Nat.zero_le _, rfl, HZ.out, Below.refl _ _⟩
        case round =>
          clear HZ
          obtain ⟨i, hiK, rfl, hrow, hbel⟩ := hrel
          have HO2 := Lib.hid hrow
          have HBL := Lib.hid hbel
          have hown := ownsRow_kept HO.out hbel
          by_cases hlt : i < K
          · have hlt3 : (i : Int) < (K : Int) := by omega
            have q := (World.ownsRow.cellAt hown i (by omega)).trans (bitsL_at _ hlt)
            have hlen := HNL.out i
            by_cases hin : (i : Int) ∈ S
            · have HN2 := Lib.hid (HNN.out i hin)
              rw [decide_eq_true hin] at q
              clear hrow hbel hown hin hlen
              go_wp2_with fail
              exact ⟨⟨i + 1, hlt, by go_num, by rw [HN2.out]; exact HO2.out, HBL.out⟩, by simp [RowKit.intOf]; omega⟩
            · have HN2 := Lib.hid (HNY.out i hin)
              rw [decide_eq_false hin] at q
              clear hrow hown hin
              have hsz := hbel.size
              clear hbel
              obtain ⟨l, hl⟩ : ∃ l, l = nvJ S i := ⟨_, rfl⟩
              rw [← hl] at HO2 HN2 hlen
              have hll : l.length ≤ 60 := by omega
              have hj2' : l.length + 1 ≤ maxLen := by unfold maxLen; omega
              clear hl hlen
              go_wp2_with (at_builtin; refine wpList_append_own _ rfl _ _ 24 rfl Wa.heap.size 3 j0 (.int .i64 0) 1 8 Try.underlying24 hj hj0 hj1 hj2 rfl (by decide) _ _ _ rfl (HO2.out.alloc _) ⟨wr.heap.size, 0, none⟩ 1 1 [.int .i64 (i : Int)] rfl rfl ?_ ?_ ?_ ?_ ?_ ?_; rotate_right; intro v' w5 hown5 hgrow5 _)
              · have hbg : Below Wa.heap.size wr w5 := ((Below.refl Wa.heap.size wr).alloc hsz _).grown hgrow5 (by simp; omega) (fun k e => (HO2.out.lt k e).1)
                refine ⟨⟨i + 1, hlt, by go_num, ?_, HBL.out.trans hbg⟩, by simp [RowKit.intOf]; omega⟩
                unfold IntsAt
                rw [HN2.out, List.map_append, List.length_append]
                exact hown5
              · exact fun j u hu => new_cell _ _ _ hu
              · simp [Value.oneCell']
              · exact hj2'
              · omega
              · simp; omega
          · have HI : Hid (i = K) := Lib.hid (by omega)
            have hlt3 : ¬ ((i : Int) < (K : Int)) := by omega
            clear hlt hiK hrow hbel hown
            go_wp2_with fail
            go_ret2
            have h := HO2.out
            rw [HI.out, ← HY.out] at h
            exact ⟨_, rfl, ownsRow_base h HB.out.size, HB.out.trans (HBL.out.mono HB.out.size)⟩
end Go.Proofs.Ytpfclanblcngfaa
