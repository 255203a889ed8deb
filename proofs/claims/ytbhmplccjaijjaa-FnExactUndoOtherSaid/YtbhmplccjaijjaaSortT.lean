/-
  'trSorted' of the model: a list of numbers in order, by halves.
-/
import Derived.Test.YtbhmplccjaijjaaPartA
import Derived.Test.YtbhmplccjaijjaaTreeN
namespace Go.Proofs.Ytbhmplccjaijjaa
open Go.RowKit
set_option linter.unusedVariables false

/-- A part of a slice, not nil. -/
def PartV (w : World) (v : Value) (xs : List Int) : Prop := ∃ g off cap, v = .slice (some ⟨g, off, none⟩) xs.length cap ∧ g < w.heap.size ∧ xs.length ≤ cap ∧ cap ≤ maxLen ∧ PartAt w g off xs
def vlen : Value → Nat
  | .slice _ n _ => n
  | _ => 0
theorem PartV.vlen {w : World} {v : Value} {xs : List Int} (h : PartV w v xs) : vlen v = xs.length := by
  obtain ⟨g, off, cap, rfl, _⟩ := h
  rfl
theorem IntsAt.partV {w : World} {B : Nat} {v : Value} {xs : List Int} (h : IntsAt w B v xs) (hn : 0 < xs.length) : PartV w v xs := by
  obtain ⟨g, cap, rfl, _, h2, h3, h4, h5⟩ := ints_row h hn
  exact ⟨g, 0, cap, rfl, h2, h3, h4, part_of_row h5⟩
theorem PartV.kept {w w' : World} {v : Value} {xs : List Int} (h : PartV w v xs) (hb : Below w.heap.size w w') : PartV w' v xs := by
  obtain ⟨g, off, cap, rfl, h2, h3, h4, h5⟩ := h
  exact ⟨g, off, cap, rfl, Nat.lt_of_lt_of_le h2 hb.size, h3, h4, h5.kept h2 hb⟩
theorem PartAt.under {w w' : World} {N g off : Nat} {xs : List Int} (h : PartAt w g off xs) (hg : g < N) (hb : Below N w w') : PartAt w' g off xs := by
  intro j u hu
  have := h j u hu
  rw [addr_add] at this ⊢
  exact (hb.cell (p := ⟨g, off + j, none⟩) hg).trans this
theorem tailA {w : World} {g off cap : Nat} {x : Int} {xs : List Int} (h2 : g < w.heap.size) (h3 : xs.length + 1 ≤ cap) (h4 : cap ≤ maxLen) (h5 : PartAt w g off (x :: xs)) (hc : ¬ cap = 1) : PartV w (.slice (some ⟨g, off + 1, none⟩) xs.length (cap - 1)) xs :=
  ⟨g, off + 1, cap - 1, rfl, h2, by omega, by omega, by have := h5.drop 1; simpa using this⟩
theorem tailB {w : World} {g off cap : Nat} {x : Int} {xs : List Int} (h2 : g < w.heap.size) (h3 : xs.length + 1 ≤ cap) (h4 : cap ≤ maxLen) (hc : cap = 1) : PartV w (.slice (some ⟨g, off, none⟩) xs.length (cap - 1)) xs := by
  obtain rfl : xs = [] := List.eq_nil_of_length_eq_zero (by omega)
  exact ⟨g, off, cap - 1, rfl, h2, by simp, by omega, fun j u hu => by simp at hu⟩
theorem wrap_nat {h : Nat} (hh : (h : Int) ≤ 9223372036854775807) : IntKind.i64.wrap (h : Int) = (h : Int) := by rw [IntKind.wrap_i64]; omega
theorem trSorted_zero (g off cap : Nat) (w : World) (hg : g < w.heap.size) :
    Calls Try.prog 93 #[.slice (some ⟨g, off, none⟩) ([] : List Int).length cap] w fun e w' => ∃ v, e = .returned v ∧ IntsAt w' w.heap.size v (srtI []) ∧ Below w.heap.size w w' := by
  have HO := Lib.hid (fun w h hg => l1Own_any g off cap [] w (by simp) h hg)
  rw [srt_short (by simp)]
  go_enter Try.func93, Try.ntmps93
  go_wp2_with fail
  refine (HO.out _ (fun j u hu => by simp at hu) hg).mono ?_
  rintro e w1 ⟨v, rfl, hr, hb⟩
  have HR := Lib.hid hr
  clear hr
  go_wp2_with fail
  go_ret
  exact ⟨v, rfl, HR.out, hb⟩
theorem l1Own_nil (w : World) :
    Calls Try.prog 101 #[.slice none 0 0] w fun e w' => ∃ v, e = .returned v ∧ IntsAt w' w.heap.size v [] ∧ Below w.heap.size w w' := by
  obtain ⟨i0, hi, hi0, hi1, hi2⟩ := info_parts info3
  have hown0 : (w.alloc (Obj.cells #[] 3)).ownsRow w.heap.size 3 1 (.slice (some ⟨w.heap.size, 0, none⟩) 0 0) 0 [] := by
    have := World.ownsRow_lit (base := w.heap.size) (e := 3) (size := 1) w #[] 0 (by simp) (by unfold maxLen; omega) (by simp)
    simpa using this
  have HO := Lib.hid hown0
  clear hown0
  go_enter Try.func101, Try.ntmps101
  go_wp2_with (at_builtin; refine wpList_append_own_none rfl _ _ 38 rfl w.heap.size 3 i0 1 Try.underlying38 hi hi1 _ _ _ rfl HO.out rfl ?_)
  go_ret
  exact ⟨_, rfl, HO.out, (Below.refl _ w).alloc (Nat.le_refl _) _⟩
set_option maxRecDepth 100000 in
set_option maxHeartbeats 4000000 in
theorem trSorted_step (N : Nat) (ih : ∀ (xs : List Int) (g off cap : Nat) (w : World), xs.length ≤ N → PartAt w g off xs → g < w.heap.size → xs.length ≤ cap → cap ≤ maxLen →
      Calls Try.prog 93 #[.slice (some ⟨g, off, none⟩) xs.length cap] w fun e w' => ∃ v, e = .returned v ∧ IntsAt w' w.heap.size v (srtI xs) ∧ Below w.heap.size w w')
    (xs : List Int) (g off cap : Nat) (w : World) (hN : N ≤ 100000) (hl : xs.length ≤ N + 1) (hp : PartAt w g off xs) (hg : g < w.heap.size) (hcap : xs.length ≤ cap) (hcm : cap ≤ maxLen) :
    Calls Try.prog 93 #[.slice (some ⟨g, off, none⟩) xs.length cap] w fun e w' => ∃ v, e = .returned v ∧ IntsAt w' w.heap.size v (srtI xs) ∧ Below w.heap.size w w' := by
  by_cases h2 : xs.length < 2
  · have HO := Lib.hid (fun w h hg => l1Own_any g off cap xs w (by omega) h hg)
    have HP := Lib.hid hp
    rw [srt_short h2]
    have h3 : (xs.length : Int) < 2 := by omega
    clear ih hp h2
    generalize xs.length = L at *
    go_enter Try.func93, Try.ntmps93
    go_wp2_with fail
    refine (HO.out _ HP.out hg).mono ?_
    rintro e w1 ⟨v, rfl, hr, hb⟩
    have HR := Lib.hid hr
    clear hr
    go_wp2_with fail
    go_ret
    exact ⟨v, rfl, HR.out, hb⟩
  · obtain ⟨h, hh⟩ : ∃ h, xs.length / 2 = h := ⟨_, rfl⟩
    have hlt : (xs.take h).length = h := by rw [List.length_take]; omega
    have hld : (xs.drop h).length = xs.length - h := by rw [List.length_drop]
    have HI1 := Lib.hid (ih (xs.take h) g off cap w.drew (by omega) ((hp.take h).kept hg ((Below.refl _ w).drew)) hg (by omega) hcm)
    have HI2 := Lib.hid (fun w' hp hg => ih (xs.drop h) g (off + h) (cap - h) w' (by omega) hp hg (by omega) (by omega))
    have HPD := Lib.hid (hp.drop h)
    rw [hlt] at HI1
    rw [hld] at HI2
    have HH := Lib.hid (srt_halves xs h)
    have HL := Lib.hid ((srt_length (xs.take h)).trans hlt)
    have HL2 := Lib.hid ((srt_length (xs.drop h)).trans hld)
    generalize srtI (xs.take h) = ps at *
    generalize srtI (xs.drop h) = bs at *
    generalize srtI xs = rs at *
    generalize xs.drop h = ds at *
    obtain ⟨i0, hi, hi0, hi1, hi2⟩ := info_parts info3
    clear ih hp hlt hld
    generalize xs.length = L at *
    have hq : (L : Int).tdiv 2 = (h : Int) := by rw [Int.tdiv_eq_ediv_of_nonneg (by omega)]; omega
    have hq2 : (L : Int) / 2 = (h : Int) := by omega
    have hq3 : L / 2 = h := hh
    have h3 : ¬ ((L : Int) < 2) := by omega
    have hii1 : (h : Int) ≤ (L : Int) := by omega
    have hii2 : (h : Int) ≤ (cap : Int) := by omega
    have hi3 : (L : Int) ≤ (cap : Int) := by omega
    have hi4 : (cap : Int) ≤ 9223372036854775807 := by unfold maxLen at hcm; omega
    have hi5 : ¬ (cap = h) := by omega
    go_enter Try.func93, Try.ntmps93
    go_wp2_with fail
    have hwr := wrap_nat (h := h) (by omega)
    go_region_law (first
      | (go_simp; go_at_call 93; refine HI1.out.mono ?_; rintro e w4 ⟨v4, rfl, hr4, hb4⟩; have HR4 := Lib.hid hr4; have HB4 := Lib.hid hb4; have HC2 := Lib.hid (HI2.out w4 (HPD.out.kept hg (((Below.refl _ w).drew).trans hb4)) (Nat.lt_of_lt_of_le hg hb4.size)); clear HI1 hr4 hb4)
      | (go_simp; go_at_call 93; refine HC2.out.mono ?_; rintro e w5 ⟨v5, rfl, hr5, hb5⟩; have HR5 := Lib.hid hr5; have HB5 := Lib.hid hb5; clear HC2 hr5 hb5))
    clear hwr hq hq2 hq3 h3 hii1 hii2 hi3 hi4 hi5
    have hps : PartV w5 v4 ps := (HR4.out.partV (by have := HL.out; omega)).kept HB5.out
    have hbs : PartV w5 v5 bs := HR5.out.partV (by have := HL2.out; omega)
    have HPS := Lib.hid hps
    have HBS := Lib.hid hbs
    have HBW : Hid (Below w.heap.size w w5) := Lib.hid ((((Below.refl _ w).drew).trans HB4.out).trans (HB5.out.mono HB4.out.size))
    have hlen : ps.length + bs.length ≤ 100001 := by have := HL.out; have := HL2.out; omega
    clear hps hbs
    go_wp2_with fail
    go_loopw [3, 4, 5] (fun a b o wr => ∃ (ls rs2 os : List Int), PartV w5 a ls ∧ PartV w5 b rs2 ∧ wr.ownsRow w5.heap.size 3 1 o os.length (os.map (Value.int .i64)) ∧ os ++ mrg ls rs2 = rs ∧ os.length + ls.length + rs2.length ≤ 100001 ∧ Below w5.heap.size w5 wr) (fun a b _ _ => vlen a + vlen b)
    case atStart => exact ⟨ps, bs, [], HPS.out, HBS.out, World.ownsRow_nil _ _ _ _, HH.out, by simpa using hlen, Below.refl _ _⟩
    case round =>
      obtain ⟨ls, rs2, os, hls, hrs, hown, hmrg, hlen2, hbel⟩ := hrel
      obtain ⟨ga, oa, ca, rfl, hga, hca, hcma, hpa⟩ := hls
      obtain ⟨gb, ob, cb, rfl, hgb, hcb, hcmb, hpb⟩ := hrs
      have HO := Lib.hid hown
      have HB := Lib.hid hbel
      have hbs0 := hbel.size
      have HPA := Lib.hid (hpa.under hga hbel)
      have HPB := Lib.hid (hpb.under hgb hbel)
      have HPA5 := Lib.hid hpa
      have HPB5 := Lib.hid hpb
      have hm1 : os.length + ls.length ≤ maxLen := by unfold maxLen; omega
      have hm2 : os.length + ls.length + rs2.length ≤ maxLen := by unfold maxLen; omega
      clear hown hbel hpa hpb
      by_cases hmo : 0 < ls.length ∧ 0 < rs2.length
      · obtain ⟨hl1, hr1⟩ := hmo
        cases ls with
        | nil => cases hl1
        | cons x ls =>
        cases rs2 with
        | nil => cases hr1
        | cons y rs2 =>
        have qa : wr.cell? ⟨ga, oa, none⟩ = some (.int .i64 x) := by have := HPA.out 0 _ rfl; rwa [addr_add] at this
        have qb : wr.cell? ⟨gb, ob, none⟩ = some (.int .i64 y) := by have := HPB.out 0 _ rfl; rwa [addr_add] at this
        have HTA := Lib.hid (fun hc => tailA (x := x) (xs := ls) hga (by simpa using hca) hcma HPA5.out hc)
        have HTA1 := Lib.hid (fun hc => tailB (x := x) (xs := ls) (w := w5) (off := oa) hga (by simpa using hca) hcma hc)
        have HTB := Lib.hid (fun hc => tailA (x := y) (xs := rs2) hgb (by simpa using hcb) hcmb HPB5.out hc)
        have HTB1 := Lib.hid (fun hc => tailB (x := y) (xs := rs2) (w := w5) (off := ob) hgb (by simpa using hcb) hcmb hc)
        have HVA : Hid (PartV w5 (.slice (some ⟨ga, oa, none⟩) (ls.length + 1) ca) (x :: ls)) := Lib.hid ⟨ga, oa, ca, rfl, hga, hca, hcma, HPA5.out⟩
        have HVB : Hid (PartV w5 (.slice (some ⟨gb, ob, none⟩) (rs2.length + 1) cb) (y :: rs2)) := Lib.hid ⟨gb, ob, cb, rfl, hgb, hcb, hcmb, HPB5.out⟩
        have HLT := Lib.hid (fun h => mrg_lt (x := x) (y := y) ls rs2 h)
        have HGE := Lib.hid (fun h => mrg_ge (x := x) (y := y) ls rs2 h)
        have HMR := Lib.hid hmrg
        simp only [List.length_cons] at hca hcb hlen2 hm1 hm2 ⊢
        have hm3 : os.length + 1 ≤ maxLen := by omega
        have ha1 : (1 : Int) ≤ (ca : Int) := by omega
        have hb1 : (1 : Int) ≤ (cb : Int) := by omega
        have ha2 : (ls.length : Int) + 1 ≤ (ca : Int) := by omega
        have hb2 : (rs2.length : Int) + 1 ≤ (cb : Int) := by omega
        have ha3 : (ca : Int) ≤ 9223372036854775807 := by unfold maxLen at hcma; omega
        have hb3 : (cb : Int) ≤ 9223372036854775807 := by unfold maxLen at hcmb; omega
        clear hmrg HPA HPB HPA5 HPB5 hl1 hr1
        have HOD := Lib.hid (fun o => (show ((wr.alloc o).drew).ownsRow w5.heap.size 3 1 u5 os.length (os.map (Value.int .i64)) from HO.out.alloc o))
        by_cases hxy : x < y
        · have HML := Lib.hid (HLT.out hxy)
          clear HLT HGE
          by_cases hc1 : ca = 1
          · go_wp2_with fail
            go_region
            go_wp2_with (at_builtin; refine wpList_append_own _ rfl _ _ 38 rfl w5.heap.size 3 i0 (.int .i64 0) 1 8 Try.underlying38 hi hi0 hi1 hi2 rfl (by decide) _ _ _ rfl (HOD.out _) ⟨wr.heap.size, 0, none⟩ 1 1 [.int .i64 x] rfl rfl (fun j u hu => new_cell wr _ _ hu) (by simp [Value.oneCell']) hm3 (by omega) (by simp; omega) ?_; intro v6 w6 hown6 hgrow6 _)
            have hb6 : Below w5.heap.size w5 w6 := ((HB.out.alloc (by omega) _).drew).grown hgrow6 (by simp; omega) (fun k e => (HO.out.lt k e).1)
            refine ⟨⟨ls, y :: rs2, os ++ [x], by have h := HTA1.out hc1; rw [hc1] at h; exact h, HVB.out, by rw [List.length_append, List.map_append]; exact hown6, by rw [← HMR.out, HML.out]; simp, by simp; omega, hb6⟩, by simp [vlen] <;> omega⟩
          · go_wp2_with fail
            go_region
            go_wp2_with (at_builtin; refine wpList_append_own _ rfl _ _ 38 rfl w5.heap.size 3 i0 (.int .i64 0) 1 8 Try.underlying38 hi hi0 hi1 hi2 rfl (by decide) _ _ _ rfl (HOD.out _) ⟨wr.heap.size, 0, none⟩ 1 1 [.int .i64 x] rfl rfl (fun j u hu => new_cell wr _ _ hu) (by simp [Value.oneCell']) hm3 (by omega) (by simp; omega) ?_; intro v6 w6 hown6 hgrow6 _)
            have hb6 : Below w5.heap.size w5 w6 := ((HB.out.alloc (by omega) _).drew).grown hgrow6 (by simp; omega) (fun k e => (HO.out.lt k e).1)
            refine ⟨⟨ls, y :: rs2, os ++ [x], HTA.out hc1, HVB.out, by rw [List.length_append, List.map_append]; exact hown6, by rw [← HMR.out, HML.out]; simp, by simp; omega, hb6⟩, by simp [vlen] <;> omega⟩
        · have HML := Lib.hid (HGE.out hxy)
          clear HLT HGE
          by_cases hc1 : cb = 1
          · go_wp2_with fail
            go_region
            go_wp2_with (at_builtin; refine wpList_append_own _ rfl _ _ 38 rfl w5.heap.size 3 i0 (.int .i64 0) 1 8 Try.underlying38 hi hi0 hi1 hi2 rfl (by decide) _ _ _ rfl (HOD.out _) ⟨wr.heap.size, 0, none⟩ 1 1 [.int .i64 y] rfl rfl (fun j u hu => new_cell wr _ _ hu) (by simp [Value.oneCell']) hm3 (by omega) (by simp; omega) ?_; intro v6 w6 hown6 hgrow6 _)
            have hb6 : Below w5.heap.size w5 w6 := ((HB.out.alloc (by omega) _).drew).grown hgrow6 (by simp; omega) (fun k e => (HO.out.lt k e).1)
            refine ⟨⟨x :: ls, rs2, os ++ [y], HVA.out, by have h := HTB1.out hc1; rw [hc1] at h; exact h, by rw [List.length_append, List.map_append]; exact hown6, by rw [← HMR.out, HML.out]; simp, by simp; omega, hb6⟩, by simp [vlen] <;> omega⟩
          · go_wp2_with fail
            go_region
            go_wp2_with (at_builtin; refine wpList_append_own _ rfl _ _ 38 rfl w5.heap.size 3 i0 (.int .i64 0) 1 8 Try.underlying38 hi hi0 hi1 hi2 rfl (by decide) _ _ _ rfl (HOD.out _) ⟨wr.heap.size, 0, none⟩ 1 1 [.int .i64 y] rfl rfl (fun j u hu => new_cell wr _ _ hu) (by simp [Value.oneCell']) hm3 (by omega) (by simp; omega) ?_; intro v6 w6 hown6 hgrow6 _)
            have hb6 : Below w5.heap.size w5 w6 := ((HB.out.alloc (by omega) _).drew).grown hgrow6 (by simp; omega) (fun k e => (HO.out.lt k e).1)
            refine ⟨⟨x :: ls, rs2, os ++ [y], HVA.out, HTB.out hc1, by rw [List.length_append, List.map_append]; exact hown6, by rw [← HMR.out, HML.out]; simp, by simp; omega, hb6⟩, by simp [vlen] <;> omega⟩
      · have HMR : Hid (os ++ (ls ++ rs2) = rs) := Lib.hid (by
          rw [← hmrg]
          congr 1
          cases ls with
          | nil => rw [mrg_nil]; rfl
          | cons x ls => cases rs2 with
            | nil => rw [mrg_nil', List.append_nil]
            | cons y rs2 => exact absurd ⟨Nat.succ_pos _, Nat.succ_pos _⟩ hmo)
        clear hmrg HPA5 HPB5
        obtain ⟨la, hla⟩ : ∃ la, ls.length = la := ⟨_, rfl⟩
        obtain ⟨lb, hlb⟩ : ∃ lb, rs2.length = lb := ⟨_, rfl⟩
        have HLA := Lib.hid hla
        have HLB := Lib.hid hlb
        rw [hla] at hmo hlen2 hm1 hm2 ⊢
        rw [hlb] at hmo hlen2 hm2 ⊢
        clear hla hlb hca hcb
        by_cases hz : 0 < la
        · have hz1 : 0 < (la : Int) := by omega
          have hz2 : ¬ (0 < (lb : Int)) := by omega
          go_wp2_with (first
            | (at_builtin; refine wpList_append_own _ rfl _ _ 38 rfl w5.heap.size 3 i0 (.int .i64 0) 1 8 Try.underlying38 hi hi0 hi1 hi2 rfl (by decide) _ _ _ rfl HO.out ⟨ga, oa, none⟩ la ca (ls.map (Value.int .i64)) rfl (by simp [HLA.out]) HPA.out (ints_one ls) hm1 (by omega) hbs0 ?_; intro v6 w6 hown6 hgrow6 _; have HO6 := Lib.hid hown6; have hbl6 : Below w5.heap.size wr w6 := ((Below.refl _ wr).mono hbs0).grown hgrow6 hbs0 (fun k e => (HO.out.lt k e).1); have HPB6 := Lib.hid (HPB.out.under hgb hbl6); have hbs6 := Nat.le_trans hbs0 hgrow6.size; have HB6 := Lib.hid hbl6; clear HO hown6 hgrow6 hbl6)
            | (at_builtin; refine wpList_append_own _ rfl _ _ 38 rfl w5.heap.size 3 i0 (.int .i64 0) 1 8 Try.underlying38 hi hi0 hi1 hi2 rfl (by decide) _ _ _ rfl HO6.out ⟨gb, ob, none⟩ lb cb (rs2.map (Value.int .i64)) rfl (by simp [HLB.out]) HPB6.out (ints_one rs2) hm2 (by omega) hbs6 ?_; intro v7 w7 hown7 hgrow7 _))
          go_ret
          refine ⟨v7, rfl, ?_, HBW.out.trans (((HB.out.trans HB6.out).grown hgrow7 hbs6 (fun k e => (HO6.out.lt k e).1)).mono HBW.out.size)⟩
          refine ownsRow_base (B := w5.heap.size) ?_ HBW.out.size
          rw [← HMR.out, List.length_append, List.length_append, HLA.out, HLB.out, List.map_append, List.map_append, ← Nat.add_assoc, ← List.append_assoc]
          exact hown7
        · have hz1 : ¬ (0 < (la : Int)) := by omega
          go_wp2_with (first
            | (at_builtin; refine wpList_append_own _ rfl _ _ 38 rfl w5.heap.size 3 i0 (.int .i64 0) 1 8 Try.underlying38 hi hi0 hi1 hi2 rfl (by decide) _ _ _ rfl HO.out ⟨ga, oa, none⟩ la ca (ls.map (Value.int .i64)) rfl (by simp [HLA.out]) HPA.out (ints_one ls) hm1 (by omega) hbs0 ?_; intro v6 w6 hown6 hgrow6 _; have HO6 := Lib.hid hown6; have hbl6 : Below w5.heap.size wr w6 := ((Below.refl _ wr).mono hbs0).grown hgrow6 hbs0 (fun k e => (HO.out.lt k e).1); have HPB6 := Lib.hid (HPB.out.under hgb hbl6); have hbs6 := Nat.le_trans hbs0 hgrow6.size; have HB6 := Lib.hid hbl6; clear HO hown6 hgrow6 hbl6)
            | (at_builtin; refine wpList_append_own _ rfl _ _ 38 rfl w5.heap.size 3 i0 (.int .i64 0) 1 8 Try.underlying38 hi hi0 hi1 hi2 rfl (by decide) _ _ _ rfl HO6.out ⟨gb, ob, none⟩ lb cb (rs2.map (Value.int .i64)) rfl (by simp [HLB.out]) HPB6.out (ints_one rs2) hm2 (by omega) hbs6 ?_; intro v7 w7 hown7 hgrow7 _))
          go_ret
          refine ⟨v7, rfl, ?_, HBW.out.trans (((HB.out.trans HB6.out).grown hgrow7 hbs6 (fun k e => (HO6.out.lt k e).1)).mono HBW.out.size)⟩
          refine ownsRow_base (B := w5.heap.size) ?_ HBW.out.size
          rw [← HMR.out, List.length_append, List.length_append, HLA.out, HLB.out, List.map_append, List.map_append, ← Nat.add_assoc, ← List.append_assoc]
          exact hown7

theorem trSorted_part : ∀ (N : Nat) (xs : List Int) (g off cap : Nat) (w : World), N ≤ 100000 → xs.length ≤ N → PartAt w g off xs → g < w.heap.size → xs.length ≤ cap → cap ≤ maxLen →
      Calls Try.prog 93 #[.slice (some ⟨g, off, none⟩) xs.length cap] w fun e w' => ∃ v, e = .returned v ∧ IntsAt w' w.heap.size v (srtI xs) ∧ Below w.heap.size w w'
  | 0, xs, g, off, cap, w, hN, hl, hp, hg, hc, hm => trSorted_step 0 (fun xs g off cap w hl hp hg hc hm => by
      obtain rfl : xs = [] := List.eq_nil_of_length_eq_zero (by omega)
      exact trSorted_zero g off cap w hg) xs g off cap w hN (by omega) hp hg hc hm
  | N + 1, xs, g, off, cap, w, hN, hl, hp, hg, hc, hm => trSorted_step N (fun xs g off cap w hl hp hg hc hm => trSorted_part N xs g off cap w (by omega) hl hp hg hc hm) xs g off cap w (by omega) hl hp hg hc hm
theorem trSorted_nil (w : World) : Calls Try.prog 93 #[.slice none 0 0] w fun e w' => ∃ v, e = .returned v ∧ IntsAt w' w.heap.size v (srtI []) ∧ Below w.heap.size w w' := by
  rw [srt_short (by simp)]
  go_enter Try.func93, Try.ntmps93
  go_wp2_with fail
  refine (l1Own_nil _).mono ?_
  rintro e w1 ⟨v, rfl, hr, hb⟩
  have HR := Lib.hid hr
  clear hr
  go_wp2_with fail
  go_ret
  exact ⟨v, rfl, HR.out, hb⟩
theorem trSorted_any {w : World} {B : Nat} {v : Value} {xs : List Int} (h : IntsAt w B v xs) (hl : xs.length ≤ 100000) : Calls Try.prog 93 #[v] w fun e w' => ∃ v, e = .returned v ∧ IntsAt w' w.heap.size v (srtI xs) ∧ Below w.heap.size w w' := by
  by_cases h0 : 0 < xs.length
  · obtain ⟨g, cap, rfl, _, h2, h3, h4, h5⟩ := ints_row h h0
    exact trSorted_part xs.length xs g 0 cap w hl (Nat.le_refl _) (part_of_row h5) h2 h3 h4
  · obtain rfl : xs = [] := List.eq_nil_of_length_eq_zero (by omega)
    rcases h.cases with ⟨rfl, _⟩ | ⟨g, cap, rfl, _, hg, _, hr⟩
    · exact trSorted_nil w
    · exact trSorted_zero g 0 cap w hg
end Go.Proofs.Ytbhmplccjaijjaa
