/-
  THE WALK OF THE LAW 'NumbersBefore' ON BYTES: levels, and the whole.
-/
import Derived.Test.YtbejddpdccddpaaNbBR
namespace Go.Proofs.Ytbejddpdccddpaa
open Go.RowKit
set_option linter.unusedVariables false

theorem nbArmB {w wq wa wb : World} {L : List (Nat × Int × Int)} {b : Nat} {t p : Int} (hx : (b, t, p) ∈ L) (h : ∀ W, Below wq.heap.size wq W → KpB w W L) (ha : Below wq.heap.size wq wa) (hb : Below wa.heap.size wa wb) : wb.cell? ⟨b, 0, none⟩ = some (.int .i64 t) ∧ wb.cell? ⟨b, 1, none⟩ = some (.int .i64 p) ∧ Hid (Below wq.heap.size wq wb) := by
  have h1 : Below wq.heap.size wq wb := ha.trans (hb.mono ha.size)
  exact ⟨((h _ h1).get hx).1, ((h _ h1).get hx).2, Lib.hid h1⟩
set_option maxRecDepth 100000 in
set_option maxHeartbeats 16000000 in
theorem fnNumbersBefore_law (vc vm : Value) (w : World) (hc : BytesAny w vc) (hm : BytesAny w vm) :
    Calls Try.prog 3 #[vc, vm] w fun e w' => e = .returned (.bool true) ∧ Below w.heap.size w w' := by
  obtain ⟨a1, n1, k1, rfl, hx1⟩ := hc
  obtain ⟨a2, n2, k2, rfl, hx2⟩ := hm
  have HBG := Lib.hid (fun w => big_any a1 a2 n1 n2 k1 k2 w)
  cases hbg : bigB n1 n2
  case true =>
    rw [hbg] at HBG
    clear hx1 hx2 hbg
    go_enter Try.func3, Try.ntmps3
    go_wp2_with (go_at_call 4; refine (HBG.out _).mono ?_; rintro e w' ⟨rfl, rfl⟩)
    go_ret
    exact ⟨rfl, Below.refl _ _⟩
  rw [hbg] at HBG
  have hbn : ¬ (1048576 < (n1 : Int)) ∧ ¬ (1048576 - (n1 : Int) < (n2 : Int)) := by
    unfold bigB at hbg
    rw [Bool.or_eq_false_iff] at hbg
    exact ⟨of_decide_eq_false hbg.1, of_decide_eq_false hbg.2⟩
  have HC : Hid (BytesArg w (.slice a1 n1 k1)) := Lib.hid (BytesAny.small ⟨a1, n1, k1, rfl, hx1⟩ (by omega))
  have HM : Hid (BytesArg w (.slice a2 n2 k2)) := Lib.hid (BytesAny.small ⟨a2, n2, k2, rfl, hx2⟩ (by omega))
  clear hx1 hx2 hbg hbn
  go_enter Try.func3, Try.ntmps3
  go_wp2_with fail
  refine (HBG.out _).mono ?_
  rintro e w' ⟨rfl, rfl⟩
  clear HBG
  go_wp2_with fail
  refine (DrawLevelOf_any _ _ HC.out).mono ?_
  rintro e v0 ⟨t, p, r, k, rfl, hb⟩
  have KP0 := Lib.hid (KpB.add (T := 25) (t := t) (p := p) (show KpB w v0 [] from ⟨by simp, hb⟩))
  clear hb HC
  have C1 := Lib.hid (fun w => iLevelOf t p r k w)
  have C2 := Lib.hid (fun w => sLevelOf t p r k w)
  have C3 := Lib.hid (fun w => iCountOddOfLevel t p r k w)
  have C4 := Lib.hid (fun w => sCountOddOfLevel t p r k w)
  have C5 := Lib.hid (fun w => iLeastOfLevel t p r k w)
  have C6 := Lib.hid (fun w => sLeastOfLevel t p r k w)
  have C7 := Lib.hid (fun w => iBarrenOfLevel t p r k w)
  have C8 := Lib.hid (fun w => sBarrenOfLevel t p r k w)
  have C9 := Lib.hid (fun w => iLevelSizes t p r k w)
  have C10 := Lib.hid (fun w => sLevelSizes t p r k w)
  have HN := Lib.hid (fun x k w => iNumberAfter t p x k w)
  have HB := Lib.hid (fun x w => iIsBarren t p x w)
  have FX := Lib.hid (fun (h : lvB false t p r k = false) => lvX_false h)
  have FL : Hid (lvB false t p r k = true → ∃ K : Nat, k = K ∧ K ≤ 20 ∧ goodB t p = true ∧ (szX t p r k).length = K + 1 ∧ (szX t p r k).getD 0 0 = 1 ∧ (szX t p r k).getD K 0 = ((lvX false t p r k).length : Int) ∧ (lvX false t p r k).Pairwise (· < ·) ∧ (∀ x ∈ lvX false t p r k, aft t p (nx t p) x (K : Int) = (r, true)) ∧ (∀ x ∈ lvX false t p r k, numB x = true)) := Lib.hid (fun h => by
    obtain ⟨K, f⟩ := levF h
    exact ⟨K, f.k_eq, f.K_le, f.good, f.len, f.first, f.last, f.rises, f.root, f.num⟩)
  have FLL : Hid (llX t p r k = (lvX false t p r k).headD 0) := Lib.hid rfl
  have FLB : Hid (llB t p r k = !(lvX false t p r k).isEmpty) := Lib.hid rfl
  have FCO : Hid (coX t p r k = (((lvX false t p r k).filter oddB).length : Int)) := Lib.hid rfl
  have FBA : Hid (baX t p r k = (lvX false t p r k).filter (barP t p)) := Lib.hid rfl
  have FS := Lib.hid (show lvB false t p r k = false → szX t p r k = [] from fun h => by rw [szX, if_neg (by simp [h])])
  have NX : Hid ((lvX false t p r k).length ≤ 2000) := Lib.hid (lvX_len false t p r k)
  go_wp2_with fail
  refine (C1.out _).mono ?_
  rintro e w1 ⟨vL, rfl, hrow, hb⟩
  have KP1 := Lib.hid (KP0.out.next hb)
  have LvL : Hid (IntsIn w1 vL (lvX false t p r k)) := Lib.hid hrow.isIn
  clear hrow
  clear hb KP0 C1
  obtain ⟨c0, c1⟩ : w1.cell? ⟨v0.heap.size, 0, none⟩ = some (.int .i64 t) ∧ w1.cell? ⟨v0.heap.size, 1, none⟩ = some (.int .i64 p) := KP1.out.get (by simp)
  go_wp2_with fail
  refine (C2.out _).mono ?_
  rintro e w2 ⟨vR, rfl, hrow, hb⟩
  have KP2 := Lib.hid (KP1.out.next hb)
  have LvLn := Lib.hid (LvL.out.kept hb)
  clear LvL
  have LvL := LvLn
  clear LvLn
  have LvR : Hid (IntsIn w2 vR (lvX false t p r k)) := Lib.hid hrow.isIn
  clear hrow
  clear hb KP1 C2 c0 c1
  obtain ⟨c0, c1⟩ : w2.cell? ⟨v0.heap.size, 0, none⟩ = some (.int .i64 t) ∧ w2.cell? ⟨v0.heap.size, 1, none⟩ = some (.int .i64 p) := KP2.out.get (by simp)
  go_wp2_with fail
  refine (C3.out _).mono ?_
  rintro e w3 ⟨rfl, hb⟩
  have KP3 := Lib.hid (KP2.out.next hb)
  have LvLn := Lib.hid (LvL.out.kept hb)
  have LvRn := Lib.hid (LvR.out.kept hb)
  clear LvL
  have LvL := LvLn
  clear LvLn
  clear LvR
  have LvR := LvRn
  clear LvRn
  clear hb KP2 C3 c0 c1
  obtain ⟨c0, c1⟩ : w3.cell? ⟨v0.heap.size, 0, none⟩ = some (.int .i64 t) ∧ w3.cell? ⟨v0.heap.size, 1, none⟩ = some (.int .i64 p) := KP3.out.get (by simp)
  go_wp2_with fail
  refine (C4.out _).mono ?_
  rintro e w4 ⟨rfl, hb⟩
  have KP4 := Lib.hid (KP3.out.next hb)
  have LvLn := Lib.hid (LvL.out.kept hb)
  have LvRn := Lib.hid (LvR.out.kept hb)
  clear LvL
  have LvL := LvLn
  clear LvLn
  clear LvR
  have LvR := LvRn
  clear LvRn
  clear hb KP3 C4 c0 c1
  obtain ⟨c0, c1⟩ : w4.cell? ⟨v0.heap.size, 0, none⟩ = some (.int .i64 t) ∧ w4.cell? ⟨v0.heap.size, 1, none⟩ = some (.int .i64 p) := KP4.out.get (by simp)
  go_wp2_with fail
  refine (C5.out _).mono ?_
  rintro e w5 ⟨rfl, hb⟩
  have KP5 := Lib.hid (KP4.out.next hb)
  have LvLn := Lib.hid (LvL.out.kept hb)
  have LvRn := Lib.hid (LvR.out.kept hb)
  clear LvL
  have LvL := LvLn
  clear LvLn
  clear LvR
  have LvR := LvRn
  clear LvRn
  clear hb KP4 C5 c0 c1
  obtain ⟨c0, c1⟩ : w5.cell? ⟨v0.heap.size, 0, none⟩ = some (.int .i64 t) ∧ w5.cell? ⟨v0.heap.size, 1, none⟩ = some (.int .i64 p) := KP5.out.get (by simp)
  go_wp2_with fail
  refine (C6.out _).mono ?_
  rintro e w6 ⟨rfl, hb⟩
  have KP6 := Lib.hid (KP5.out.next hb)
  have LvLn := Lib.hid (LvL.out.kept hb)
  have LvRn := Lib.hid (LvR.out.kept hb)
  clear LvL
  have LvL := LvLn
  clear LvLn
  clear LvR
  have LvR := LvRn
  clear LvRn
  clear hb KP5 C6 c0 c1
  obtain ⟨c0, c1⟩ : w6.cell? ⟨v0.heap.size, 0, none⟩ = some (.int .i64 t) ∧ w6.cell? ⟨v0.heap.size, 1, none⟩ = some (.int .i64 p) := KP6.out.get (by simp)
  go_wp2_with fail
  refine (C7.out _).mono ?_
  rintro e w7 ⟨vB, rfl, hrow, hb⟩
  have KP7 := Lib.hid (KP6.out.next hb)
  have LvLn := Lib.hid (LvL.out.kept hb)
  have LvRn := Lib.hid (LvR.out.kept hb)
  clear LvL
  have LvL := LvLn
  clear LvLn
  clear LvR
  have LvR := LvRn
  clear LvRn
  have LvB : Hid (IntsIn w7 vB (baX t p r k)) := Lib.hid hrow.isIn
  clear hrow
  clear hb KP6 C7 c0 c1
  obtain ⟨c0, c1⟩ : w7.cell? ⟨v0.heap.size, 0, none⟩ = some (.int .i64 t) ∧ w7.cell? ⟨v0.heap.size, 1, none⟩ = some (.int .i64 p) := KP7.out.get (by simp)
  go_wp2_with fail
  refine (C8.out _).mono ?_
  rintro e w8 ⟨vC, rfl, hrow, hb⟩
  have KP8 := Lib.hid (KP7.out.next hb)
  have LvLn := Lib.hid (LvL.out.kept hb)
  have LvRn := Lib.hid (LvR.out.kept hb)
  have LvBn := Lib.hid (LvB.out.kept hb)
  clear LvL
  have LvL := LvLn
  clear LvLn
  clear LvR
  have LvR := LvRn
  clear LvRn
  clear LvB
  have LvB := LvBn
  clear LvBn
  have LvC : Hid (IntsIn w8 vC (baX t p r k)) := Lib.hid hrow.isIn
  clear hrow
  clear hb KP7 C8 c0 c1
  obtain ⟨c0, c1⟩ : w8.cell? ⟨v0.heap.size, 0, none⟩ = some (.int .i64 t) ∧ w8.cell? ⟨v0.heap.size, 1, none⟩ = some (.int .i64 p) := KP8.out.get (by simp)
  go_wp2_with fail
  refine (C9.out _).mono ?_
  rintro e w9 ⟨vS, rfl, hrow, hb⟩
  have KP9 := Lib.hid (KP8.out.next hb)
  have LvLn := Lib.hid (LvL.out.kept hb)
  have LvRn := Lib.hid (LvR.out.kept hb)
  have LvBn := Lib.hid (LvB.out.kept hb)
  have LvCn := Lib.hid (LvC.out.kept hb)
  clear LvL
  have LvL := LvLn
  clear LvLn
  clear LvR
  have LvR := LvRn
  clear LvRn
  clear LvB
  have LvB := LvBn
  clear LvBn
  clear LvC
  have LvC := LvCn
  clear LvCn
  have LvS : Hid (IntsIn w9 vS (szX t p r k)) := Lib.hid hrow.isIn
  clear hrow
  clear hb KP8 C9 c0 c1
  obtain ⟨c0, c1⟩ : w9.cell? ⟨v0.heap.size, 0, none⟩ = some (.int .i64 t) ∧ w9.cell? ⟨v0.heap.size, 1, none⟩ = some (.int .i64 p) := KP9.out.get (by simp)
  go_wp2_with fail
  refine (C10.out _).mono ?_
  rintro e w10 ⟨vT, rfl, hrow, hb⟩
  have KP10 := Lib.hid (KP9.out.next hb)
  have LvLn := Lib.hid (LvL.out.kept hb)
  have LvRn := Lib.hid (LvR.out.kept hb)
  have LvBn := Lib.hid (LvB.out.kept hb)
  have LvCn := Lib.hid (LvC.out.kept hb)
  have LvSn := Lib.hid (LvS.out.kept hb)
  clear LvL
  have LvL := LvLn
  clear LvLn
  clear LvR
  have LvR := LvRn
  clear LvRn
  clear LvB
  have LvB := LvBn
  clear LvBn
  clear LvC
  have LvC := LvCn
  clear LvCn
  clear LvS
  have LvS := LvSn
  clear LvSn
  have LvT : Hid (IntsIn w10 vT (szX t p r k)) := Lib.hid hrow.isIn
  clear hrow
  clear hb KP9 C10 c0 c1
  generalize lvX false t p r k = xs at *
  generalize lvB false t p r k = B at *
  generalize coX t p r k = co at *
  generalize llX t p r k = ll at *
  generalize llB t p r k = lb at *
  generalize baX t p r k = ba at *
  generalize szX t p r k = sz at *
  have HS1 := Lib.hid (fun W (hb : Below w10.heap.size w10 W) => rSame_any xs vL vR W (by have := NX.out; omega) (LvL.out.kept hb) (LvR.out.kept hb))
  have NB : Hid (ba.length ≤ 2000) := Lib.hid (by rw [FBA.out]; exact Nat.le_trans (List.length_filter_le _ _) NX.out)
  have NS : Hid (sz.length ≤ 2000) := Lib.hid (by
    cases hB : B
    · rw [FS.out hB]; simp
    · obtain ⟨K, _, h1, _, h2, _⟩ := FL.out hB
      omega)
  have HS2 := Lib.hid (fun W (hb : Below w10.heap.size w10 W) => rSame_any ba vB vC W (by have := NB.out; omega) (LvB.out.kept hb) (LvC.out.kept hb))
  have HS3 := Lib.hid (fun W (hb : Below w10.heap.size w10 W) => rSame_any sz vS vT W (by have := NS.out; omega) (LvS.out.kept hb) (LvT.out.kept hb))
  obtain ⟨aL, cL, rfl, -⟩ := LvL.out.at
  obtain ⟨aR, cR, rfl, -⟩ := LvR.out.at
  obtain ⟨aB, cB, rfl, -⟩ := LvB.out.at
  obtain ⟨aC, cC, rfl, -⟩ := LvC.out.at
  obtain ⟨aS, cS, rfl, -⟩ := LvS.out.at
  obtain ⟨aT, cT, rfl, -⟩ := LvT.out.at
  go_upto_region 14 with fail
  go_cut [8, 9, 12, 16, 17, 20, 24, 216] from 10 to 140 (fun s19 s20 s23 s27 s28 s31 s35 s212 wx => s212 = .bool false ∧ s19 = .slice aL xs.length cL ∧ s20 = .bool B ∧ s23 = .int .i64 co ∧ s27 = .int .i64 ll ∧ s28 = .bool lb ∧ s31 = .slice aB ba.length cB ∧ s35 = .slice aS sz.length cS ∧ Hid (KpB w wx [(v0.heap.size, t, p)]) ∧ Hid (IntsIn wx (.slice aL xs.length cL) xs) ∧ Hid (IntsIn wx (.slice aB ba.length cB) ba) ∧ Hid (IntsIn wx (.slice aS sz.length cS) sz))
  case first =>
    have HREL : Hid (∀ W, Below w10.heap.size w10 W → Hid (KpB w W [(v0.heap.size, t, p)]) ∧ Hid (IntsIn W (.slice aL xs.length cL) xs) ∧ Hid (IntsIn W (.slice aB ba.length cB) ba) ∧ Hid (IntsIn W (.slice aS sz.length cS) sz)) := Lib.hid (fun W hb => ⟨Lib.hid (KP10.out.next hb), Lib.hid (LvL.out.kept hb), Lib.hid (LvB.out.kept hb), Lib.hid (LvS.out.kept hb)⟩)
    simp only [List.append_eq, List.cons_append, List.nil_append]
    cases B
    · obtain rfl : xs = [] := FX.out rfl
      obtain rfl : lb = false := FLB.out
      clear FX FL FLL FLB FCO FBA FS NX NB NS HN HB LvL LvR LvB LvC LvS LvT KP10
      go_wp2_with (first
        | (go_at_call 16; refine (HS1.out _ (Below.refl _ _)).mono ?_; rintro e wa ⟨rfl, hba⟩; have HBa := Lib.hid hba; clear HS1 hba)
        | (go_at_call 16; refine (HS2.out _ HBa.out).mono ?_; rintro e wb ⟨rfl, hbb⟩; have HBb := Lib.hid (HBa.out.trans (hbb.mono HBa.out.size)); clear HS2 hbb)
        | (go_at_call 16; refine (HS3.out _ HBb.out).mono ?_; rintro e wc ⟨rfl, hbc⟩; have HBc := Lib.hid (HBb.out.trans (hbc.mono HBb.out.size)); clear HS3 hbc))
      go_meet
      case rel => exact ⟨rfl, rfl, rfl, rfl, rfl, rfl, rfl, rfl, HREL.out _ HBc.out⟩
    · obtain ⟨lc, hlc⟩ : ∃ lc, lc = decide (0 < (xs.length : Int)) := ⟨_, rfl⟩
      have HLC : Hid (lb = lc) := Lib.hid (by
        rw [FLB.out, hlc]
        cases xs with
        | nil => rfl
        | cons x0 xt => simp)
      have HLN : Hid (decide (0 < xs.length) = lc) := Lib.hid (by rw [hlc]; simp)
      obtain rfl := HLC.out
      clear FX FL FLL FLB FCO FBA FS NX NB NS HN HB LvL LvR LvB LvC LvS LvT KP10 HLC
      cases lb
      all_goals
        have hcmp := hlc.symm
        clear hlc
        go_wp2_with (first
          | (go_at_call 16; refine (HS1.out _ (Below.refl _ _)).mono ?_; rintro e wa ⟨rfl, hba⟩; have HBa := Lib.hid hba; clear HS1 hba)
          | (go_at_call 16; refine (HS2.out _ HBa.out).mono ?_; rintro e wb ⟨rfl, hbb⟩; have HBb := Lib.hid (HBa.out.trans (hbb.mono HBa.out.size)); clear HS2 hbb)
          | (go_at_call 16; refine (HS3.out _ HBb.out).mono ?_; rintro e wc ⟨rfl, hbc⟩; have HBc := Lib.hid (HBb.out.trans (hbc.mono HBb.out.size)); clear HS3 hbc))
        go_meet
        case rel => exact ⟨by rw [HLN.out] <;> rfl, rfl, rfl, rfl, rfl, rfl, rfl, rfl, HREL.out _ HBc.out⟩
  case rest =>
    obtain ⟨rfl, rfl, rfl, rfl, rfl, rfl, rfl, rfl, KQ, QL, QB, QS⟩ := hcut
    clear LvL LvR LvB LvC LvS LvT KP10 HS1 HS2 HS3
    go_upto_if 217 with fail
    go_cut [] from 8 to 34 (fun wx => Hid (KpB w wx [(v0.heap.size, t, p)]))
    case first =>
      cases B
      · go_wp2_with fail
        go_meet
        case rel => exact KQ
      · obtain ⟨K, rfl, hK, hgood, hlen, hz0, hzK, hris, hroot, hnum⟩ := FL.out rfl
        have HRI : Hid (∀ W, Below wc.heap.size wc W → Calls Try.prog 17 #[.slice aL xs.length cL] W fun e w' => e = .returned (.bool true) ∧ Below W.heap.size W w') := Lib.hid fun W hb => rRises_any xs _ W (by have := NX.out; omega) hris (QL.out.kept hb)
        have HNX : Hid (∀ x ∈ xs, ∀ w, Calls Try.prog 18 #[.agg #[.int .i64 t, .int .i64 p], .int .i64 x, .int .i64 (K : Int)] w fun e w' => e = .returned (.tuple #[.int .i64 r, .bool true]) ∧ Below w.heap.size w w') := Lib.hid fun x hx w => by
          have := HN.out x K w
          rwa [hroot x hx] at this
        have HBX : Hid (∀ x ∈ xs, ∀ w, Calls Try.prog 19 #[.agg #[.int .i64 t, .int .i64 p], .int .i64 x] w fun e w' => e = .returned (.tuple #[.bool (decide (x ∈ ba)), .bool true]) ∧ Below w.heap.size w w') := Lib.hid fun x hx w => by
          have h1 := HB.out x w
          have h2 : askN t p x = true := by rw [askN, hgood, hnum x hx]; rfl
          have h3 : decide (x ∈ ba) = barP t p x := by
            rw [FBA.out, Bool.eq_iff_iff, decide_eq_true_eq, List.mem_filter]
            exact ⟨fun h => h.2, fun h => ⟨hx, h⟩⟩
          rw [h2, Bool.true_and] at h1
          rw [h3]
          exact h1
        have HHX : Hid (∀ x W, Below wc.heap.size wc W → Calls Try.prog 20 #[.slice aB ba.length cB, .int .i64 x] W fun e w' => e = .returned (.bool (decide (x ∈ ba))) ∧ W = w') := Lib.hid fun x W hb => rHas_any ba x _ W (by have := NB.out; omega) (QB.out.kept hb)
        obtain ⟨_, _, hS1, hS2⟩ := QS.out.at
        injection hS1 with hS3 hS4 hS5
        subst hS3
        obtain ⟨gS, rfl, hgS, hz1⟩ := hS2 0 (by omega)
        obtain ⟨gS', hgg, hgS', hz2⟩ := hS2 K (by omega)
        obtain rfl : gS = gS' := by injection hgg with h1; injection h1
        rw [hz0] at hz1
        rw [hzK] at hz2
        have HSC : Hid (∀ W, Below wc.heap.size wc W → W.cell? ⟨gS, 0, none⟩ = some (.int .i64 1) ∧ W.cell? ⟨gS, K, none⟩ = some (.int .i64 (xs.length : Int))) := Lib.hid fun W hb => ⟨(hb.cell (p := ⟨gS, 0, none⟩) hgS).trans hz1, (hb.cell (p := ⟨gS, K, none⟩) hgS).trans hz2⟩
        have HLC : Hid (∀ m, m < xs.length → ∃ gL, aL = some ⟨gL, 0, none⟩ ∧ gL < wc.heap.size ∧ wc.cell? ⟨gL, m, none⟩ = some (.int .i64 (xs.getD m 0))) := Lib.hid (by
          obtain ⟨_, _, h1, h2⟩ := QL.out.at
          injection h1 with h3 h4 h5
          subst h3
          exact h2)
        have HKP : Hid (∀ W, Below wc.heap.size wc W → KpB w W [(v0.heap.size, t, p)]) := Lib.hid fun W hb => KQ.out.next hb
        rw [hlen]
        clear hgg hz1 hz2 hS2 hS4 hS5 hgS hgS' hlen hz0 hzK hris hroot hnum hgood KQ QL QB QS FX FL FS HN HB FBA NB NS
        have hK2 : (K : Int) ≤ 20 := by omega
        have HTF := Lib.hid (fun m (hm : m < xs.length) => take_filter (P := oddB) hm)
        have hL2 : (xs.length : Int) ≤ 2000 := by have := NX.out; omega
        generalize hL : xs.length = L at *
        have HL := Lib.hid hL
        clear hL hK
        obtain ⟨wq, rfl⟩ : ∃ wq : World, wq = wc := ⟨_, rfl⟩
        go_upto_region 17 with fail
        go_cut [252] from 218 to 218 (fun s248 wx => s248 = .bool false ∧ Hid (Below wq.heap.size wq wx))
        case first =>
          cases lb
          · clear HKP HHX HBX HNX HTF FCO FLL FLB HLC
            go_wp2_with (go_at_call 17; refine (HRI.out _ (Below.refl _ _)).mono ?_; rintro e wa ⟨rfl, hba⟩; obtain ⟨q0, qK⟩ := HSC.out _ hba; have HBa := Lib.hid hba; clear hba)
            go_meet
            case rel => exact ⟨rfl, HBa.out⟩
          · have hL0 : 0 < L := by
              have h1 := FLB.out
              have h2 := HL.out
              cases xs with
              | nil => cases h1
              | cons x0 xt => simp at h2; omega
            obtain ⟨gL, rfl, hgL, hc⟩ := HLC.out 0 hL0
            have h3 : xs.getD 0 0 = ll := by
              rw [FLL.out]
              cases xs <;> rfl
            rw [h3] at hc
            have HC0 : Hid (∀ W, Below wq.heap.size wq W → W.cell? ⟨gL, 0, none⟩ = some (.int .i64 ll)) := Lib.hid fun W hb => (hb.cell (p := ⟨gL, 0, none⟩) hgL).trans hc
            have hL1 : (0 : Int) < (L : Int) := by omega
            clear HKP HHX HBX HNX HTF FCO FLL FLB HLC h3 hc hgL hL0
            go_wp2_with (go_at_call 17; refine (HRI.out _ (Below.refl _ _)).mono ?_; rintro e wa ⟨rfl, hba⟩; obtain ⟨q0, qK⟩ := HSC.out _ hba; have qL := HC0.out _ hba; have HBa := Lib.hid hba; clear hba)
            go_meet
            case rel => exact ⟨rfl, HBa.out⟩
        case rest =>
          obtain ⟨rfl, HQ⟩ := hcut
          clear HRI HSC FLL FLB
          go_wp2_with fail
          go_loopw [28, 255] (fun c i wr => ∃ j : Nat, j ≤ L ∧ i = .int .i64 j ∧ ∃ n : Nat, c = .int .i64 n ∧ n = ((xs.take j).filter oddB).length ∧ Hid (Below wq.heap.size wq wr)) (fun _ i _ => L - (RowKit.intOf i).toNat)
          case atStart => exact ⟨0, Nat.zero_le _, rfl, 0, rfl, by simp, HQ⟩
          case round =>
            obtain ⟨j, hj, rfl, n, rfl, hn, HW⟩ := hrel
            have hnm : n ≤ j := by rw [hn]; refine Nat.le_trans (List.length_filter_le _ _) ?_; rw [List.length_take]; omega
            have HNN := Lib.hid hn
            clear hn
            by_cases hjl : j < L
            · obtain ⟨x, hx⟩ : ∃ x, xs.getD j 0 = x := ⟨_, rfl⟩
              have hxm : x ∈ xs := by rw [← hx, List.getD_eq_getElem?_getD, List.getElem?_eq_getElem (by have := HL.out; omega)]; exact List.getElem_mem _
              obtain ⟨gL, rfl, hgL, hc⟩ := HLC.out j hjl
              have q := (HW.out.cell (p := ⟨gL, j, none⟩) hgL).trans hc
              have HT := HTF.out j hjl
              rw [hx] at q HT
              have hj2 : (j : Int) < (L : Int) := by omega
              have hn2 : (n : Int) ≤ 2000 := by omega
              have N1 := Lib.hid (HNX.out x hxm)
              have B1 := Lib.hid (HBX.out x hxm)
              have H1 := Lib.hid (HHX.out x)
              obtain ⟨bb, hbb⟩ : ∃ bb, decide (x ∈ ba) = bb := ⟨_, rfl⟩
              rw [hbb] at B1 H1
              have K1 := HKP.out _ HW.out
              obtain ⟨c0, c1⟩ : wr.cell? ⟨v0.heap.size, 0, none⟩ = some (.int .i64 t) ∧ wr.cell? ⟨v0.heap.size, 1, none⟩ = some (.int .i64 p) := K1.get (by simp)
              have HT2 : Hid (∀ b, oddB x = b → ((xs.take (j + 1)).filter oddB).length = n + if b = true then 1 else 0) := Lib.hid fun b hb => by
                rw [HT, List.length_append, ← HNN.out, hb]
                cases b <;> rfl
              clear hx hxm hc hgL HT HTF HNX HBX HHX hbb K1 HLC
              have HARM : True := trivial
              cases ho : oddB x
              · have he : x.tmod 2 = 0 := by have h1 := oddB_tmod x; rw [ho] at h1; simpa using h1
                have HN2 : Hid (n = ((xs.take (j + 1)).filter oddB).length) := Lib.hid (by have h1 := HT2.out false ho; simpa using h1.symm)
                clear ho HT2 HNN hnm HARM
                go_wp2_with (first
                  | (go_at_call 18; refine (N1.out _).mono ?_; rintro e wa ⟨rfl, hba⟩; obtain ⟨c0, c1, HBa⟩ := nbArmB (b := v0.heap.size) (t := t) (p := p) (by simp) HKP.out HW.out hba; clear N1 hba)
                  | (go_at_call 19; refine (B1.out _).mono ?_; rintro e wb ⟨rfl, hbb⟩; obtain ⟨c0, c1, HBb⟩ := nbArmB (b := v0.heap.size) (t := t) (p := p) (by simp) HKP.out HBa.out hbb; clear B1 hbb)
                  | (go_at_call 20; refine (H1.out _ HBb.out).mono ?_; rintro e wb ⟨rfl, rfl⟩; clear H1))
                exact ⟨⟨j + 1, hjl, by go_num, n, by rfl, HN2.out, HBb⟩, by simp [RowKit.intOf]; omega⟩
              · have he : ¬ x.tmod 2 = 0 := by have h1 := oddB_tmod x; rw [ho] at h1; simpa using h1
                have HN2 : Hid (n + 1 = ((xs.take (j + 1)).filter oddB).length) := Lib.hid (by have h1 := HT2.out true ho; simpa using h1.symm)
                clear ho HT2 HNN hnm HARM
                go_wp2_with (first
                  | (go_at_call 18; refine (N1.out _).mono ?_; rintro e wa ⟨rfl, hba⟩; obtain ⟨c0, c1, HBa⟩ := nbArmB (b := v0.heap.size) (t := t) (p := p) (by simp) HKP.out HW.out hba; clear N1 hba)
                  | (go_at_call 19; refine (B1.out _).mono ?_; rintro e wb ⟨rfl, hbb⟩; obtain ⟨c0, c1, HBb⟩ := nbArmB (b := v0.heap.size) (t := t) (p := p) (by simp) HKP.out HBa.out hbb; clear B1 hbb)
                  | (go_at_call 20; refine (H1.out _ HBb.out).mono ?_; rintro e wb ⟨rfl, rfl⟩; clear H1))
                exact ⟨⟨j + 1, hjl, by go_num, n + 1, by go_num, HN2.out, HBb⟩, by simp [RowKit.intOf]; omega⟩
            · obtain rfl : j = L := by omega
              have hj2 : ¬ ((j : Int) < (j : Int)) := by omega
              have hco : (n : Int) = co := by rw [FCO.out, HNN.out, List.take_of_length_le (by have := HL.out; omega)]
              obtain rfl := hco
              have HKE := Lib.hid (HKP.out _ HW.out)
              clear HTF HNX HBX HHX HKP HLC FCO HNN hnm HQ
              go_wp2_with fail
              go_meet
              case rel => exact HKE
    case rest =>
      refine ‹∀ (a : Act) (w : World), Code.wp _ _ _ a w → _› _ _ ?_
      exact nb_rest _ w wc (Lib.hid hcut.out.2) HM _ _ _ _ _ _ _ _ _ _ _ _ _ _ _ _ _ _ _ _ _ _ _ _ _ _ _ _ _ _ _ _ _ _ _ _ _ _ _ _ _ _ _ _ _ _ _ _ _ _ _ _ _ _ _ _ _ _ _ _ _ _ _ _ _ _ _ _ _ _ _ _ _ _ _ _ _ _ _ _ _ _ _ _ _ _ _ _ _ _ _ _ _ _ _ _ _ _ _ _ _ _ _ _ _ _ _ _ _ _ _ _ _ _ _ _ _ _ _ _ _ _ _ _ _ _ _ _ _ _ _ _ _ _ _ _ _ _ _ _ _ _ _ _ _ _ _ _ _ _ _ _ _ _ _ _ _ _ _ _ _ _ _ _ _ _ _ _ _ _ _ _ _ _ _ _ _ _ _ _ _ _ _ _ _ _ _ _ _ _ _ _ _ _ _ _ _ _ _ _ _ _ _ _ _ _ _ _ _ _ _ _ _ _ _ _ _ _ _ _ _ _ _ _ _ _ _ _ _ _ _ _ _ _ _ _ _ _ _ _ _ _ _ _ _ _ _ _ _ _ _ _ _ _ _ _ _ _ _ _ _ _ _ _ _ _ _ _ _ _ _ _ _ _ _ _ _ _ _ _ _ _ _ _ _ _ _ _ _ _ _ _ _ _ _ _ _ _ _ _ _ _ _ _ _ _ _ _ _ _ _ _ _ _ _ _ _ _ _ _ _ _ _ _ _ _ _ _ _ _ _ _ _ _ _ _ _ _ _ _ _ _ _ _ _ _ _ _ _ _ _ _ _ _ _ _ _ _ _ _ _ _ _ _ _ _ _ _ _ _ _ _ _ _ _ _ _ _ _ _ _ _ _ _ _ _ _ _ _ _ _ _ _ _ _ _ _ _ _ _ _ _ _ _ _ _ _ _ _ _ _ _ _ _ _ _ _ _ _ _ _ _ _ _ _ _ _ _ _ _ _ _ _ _ _ _ _ _ _ _ _ _ _ _ _ _ _ _ _ _ _ _ _ _ _ _ _ _ _ _ _ _ _ _ _ _ _ _ _ _ _ _ _ _ _ _
end Go.Proofs.Ytbejddpdccddpaa
