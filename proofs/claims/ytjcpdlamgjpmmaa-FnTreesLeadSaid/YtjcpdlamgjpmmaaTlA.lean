/-
  THE WALK OF THE LAW 'TreesLead' ON BYTES: branches, short levels.
-/
import Derived.Test.YtjcpdlamgjpmmaaTlB
namespace Go.Proofs.Ytjcpdlamgjpmmaa
open Go.RowKit
set_option linter.unusedVariables false

theorem nbArmB {w wq wa wb : World} {L : List (Nat × Int × Int)} {b : Nat} {t p : Int} (hx : (b, t, p) ∈ L) (h : ∀ W, Below wq.heap.size wq W → KpB w W L) (ha : Below wq.heap.size wq wa) (hb : Below wa.heap.size wa wb) : wb.cell? ⟨b, 0, none⟩ = some (.int .i64 t) ∧ wb.cell? ⟨b, 1, none⟩ = some (.int .i64 p) ∧ Hid (Below wq.heap.size wq wb) := by
  have h1 : Below wq.heap.size wq wb := ha.trans (hb.mono ha.size)
  exact ⟨((h _ h1).get hx).1, ((h _ h1).get hx).2, Lib.hid h1⟩
set_option maxRecDepth 100000 in
set_option maxHeartbeats 16000000 in
theorem fnTreesLead_law (vc vm : Value) (w : World) (hc : BytesAny w vc) (hm : BytesAny w vm) :
    Calls Try.prog 3 #[vc, vm] w fun e w' => e = .returned (.bool true) ∧ Below w.heap.size w w' := by
  obtain ⟨a1, n1, k1, rfl, hx1⟩ := hc
  obtain ⟨a2, n2, k2, rfl, hx2⟩ := hm
  have HBG := Lib.hid (fun w => big_any a1 a2 n1 n2 k1 k2 w)
  cases hbg : bigB n1 n2
  case true =>
    rw [hbg] at HBG
    clear hx1 hx2 hbg
    go_enter Try.func3, Try.ntmps3
    go_wp2_with (go_at_call 4; refine (HBG.out _).mono ?_; rintro e w' ⟨rfl, rfl⟩)
    go_ret
    exact ⟨rfl, Below.refl _ _⟩
  rw [hbg] at HBG
  have hbn : ¬ (1048576 < (n1 : Int)) ∧ ¬ (1048576 - (n1 : Int) < (n2 : Int)) := by
    unfold bigB at hbg
    rw [Bool.or_eq_false_iff] at hbg
    exact ⟨of_decide_eq_false hbg.1, of_decide_eq_false hbg.2⟩
  have HC : Hid (BytesArg w (.slice a1 n1 k1)) := Lib.hid (BytesAny.small ⟨a1, n1, k1, rfl, hx1⟩ (by omega))
  have HM : Hid (BytesArg w (.slice a2 n2 k2)) := Lib.hid (BytesAny.small ⟨a2, n2, k2, rfl, hx2⟩ (by omega))
  clear hx1 hx2 hbg hbn
  go_enter Try.func3, Try.ntmps3
  go_wp2_with fail
  refine (HBG.out _).mono ?_
  rintro e w' ⟨rfl, rfl⟩
  clear HBG
  go_wp2_with fail
  refine (DrawBranchOf_any _ _ HC.out).mono ?_
  rintro e v0 ⟨t, p, n, k, rfl, hb⟩
  have KP0 := Lib.hid (KpB.add (T := 25) (t := t) (p := p) (show KpB w v0 [] from ⟨by simp, hb⟩))
  clear hb HC
  have C1 := Lib.hid (fun w => iBranchOf t p n k w)
  have C2 := Lib.hid (fun w => sBranchOf t p n k w)
  have C3 := Lib.hid (fun w => iShortLevel t p n k w)
  have C4 := Lib.hid (fun w => sShortLevel t p n k w)
  have HN := Lib.hid (fun x w => iNextNumber t p x w)
  have HA := Lib.hid (fun x w => iShortAfter t p x k w)
  have FB : Hid (brB t p n k = true → ∃ K : Nat, k = K ∧ K ≤ 20 ∧ (brX t p n k).length ≤ K + 1 ∧ (∀ j, j ≤ K → numB (n * 2 ^ j) = true) ∧ ∀ x ∈ brX t p n k, numB x = true ∧ x % 2 ≠ 0 ∧ ∃ j, j ≤ K ∧ aft t p (nx t p) x 1 = (n * 2 ^ j, true)) := Lib.hid (fun h => by
    obtain ⟨K, b⟩ := brF h
    exact ⟨K, b.k_eq, b.K_le, b.len, b.dbl, b.mem⟩)
  have FS := Lib.hid (fun (h : lvB true t p n k = true) => shF h)
  have NX : Hid ((brX t p n k).length ≤ 1000) := Lib.hid (by
    unfold brX
    split
    · rename_i h
      have hi : inB k 0 20 = true := by simp only [brB, Bool.and_eq_true] at h; exact h.1.2
      have hk : 0 ≤ k ∧ k ≤ 20 := by simpa [inB] using hi
      have := brL_len t p n (k.toNat + 1)
      omega
    · simp)
  have NY : Hid ((lvX true t p n k).length ≤ 2000) := Lib.hid (lvX_len true t p n k)
  go_wp2_with fail
  refine (C1.out _).mono ?_
  rintro e w1 ⟨vL, rfl, hrow, hb⟩
  have KP1 := Lib.hid (KP0.out.next hb)
  have LvL : Hid (IntsIn w1 vL (brX t p n k)) := Lib.hid hrow.isIn
  clear hrow hb KP0 C1
  obtain ⟨c0, c1⟩ : w1.cell? ⟨v0.heap.size, 0, none⟩ = some (.int .i64 t) ∧ w1.cell? ⟨v0.heap.size, 1, none⟩ = some (.int .i64 p) := KP1.out.get (by simp)
  go_wp2_with fail
  refine (C2.out _).mono ?_
  rintro e w2 ⟨vR, rfl, hrow, hb⟩
  have KP2 := Lib.hid (KP1.out.next hb)
  have LvLn := Lib.hid (LvL.out.kept hb)
  clear LvL
  have LvL := LvLn
  clear LvLn
  have LvR : Hid (IntsIn w2 vR (brX t p n k)) := Lib.hid hrow.isIn
  clear hrow hb KP1 C2 c0 c1
  obtain ⟨c0, c1⟩ : w2.cell? ⟨v0.heap.size, 0, none⟩ = some (.int .i64 t) ∧ w2.cell? ⟨v0.heap.size, 1, none⟩ = some (.int .i64 p) := KP2.out.get (by simp)
  go_wp2_with fail
  refine (C3.out _).mono ?_
  rintro e w3 ⟨vS, rfl, hrow, hb⟩
  have KP3 := Lib.hid (KP2.out.next hb)
  have LvLn := Lib.hid (LvL.out.kept hb)
  clear LvL
  have LvL := LvLn
  clear LvLn
  have LvRn := Lib.hid (LvR.out.kept hb)
  clear LvR
  have LvR := LvRn
  clear LvRn
  have LvS : Hid (IntsIn w3 vS (lvX true t p n k)) := Lib.hid hrow.isIn
  clear hrow hb KP2 C3 c0 c1
  obtain ⟨c0, c1⟩ : w3.cell? ⟨v0.heap.size, 0, none⟩ = some (.int .i64 t) ∧ w3.cell? ⟨v0.heap.size, 1, none⟩ = some (.int .i64 p) := KP3.out.get (by simp)
  go_wp2_with fail
  refine (C4.out _).mono ?_
  rintro e w4 ⟨vT, rfl, hrow, hb⟩
  have KP4 := Lib.hid (KP3.out.next hb)
  have LvLn := Lib.hid (LvL.out.kept hb)
  clear LvL
  have LvL := LvLn
  clear LvLn
  have LvRn := Lib.hid (LvR.out.kept hb)
  clear LvR
  have LvR := LvRn
  clear LvRn
  have LvSn := Lib.hid (LvS.out.kept hb)
  clear LvS
  have LvS := LvSn
  clear LvSn
  have LvT : Hid (IntsIn w4 vT (lvX true t p n k)) := Lib.hid hrow.isIn
  clear hrow hb KP3 C4 c0 c1
  generalize brX t p n k = xs at *
  generalize brB t p n k = B at *
  generalize lvX true t p n k = ys at *
  generalize lvB true t p n k = C at *
  have HS1 := Lib.hid (fun W (hb : Below w4.heap.size w4 W) => rSame_any xs vL vR W (by have := NX.out; omega) (LvL.out.kept hb) (LvR.out.kept hb))
  have HS2 := Lib.hid (fun W (hb : Below w4.heap.size w4 W) => rSame_any ys vS vT W (by have := NY.out; omega) (LvS.out.kept hb) (LvT.out.kept hb))
  obtain ⟨aL, cL, rfl, -⟩ := LvL.out.at
  obtain ⟨aR, cR, rfl, -⟩ := LvR.out.at
  obtain ⟨aS, cS, rfl, -⟩ := LvS.out.at
  obtain ⟨aT, cT, rfl, -⟩ := LvT.out.at
  go_upto_region 8 with fail
  go_cut [8, 9, 12, 13, 125] from 10 to 105 (fun s8 s9 s12 s13 s125 wx => s125 = .bool false ∧ s8 = .slice aL xs.length cL ∧ s9 = .bool B ∧ s12 = .slice aS ys.length cS ∧ s13 = .bool C ∧ Hid (KpB w wx [(v0.heap.size, t, p)]) ∧ Hid (IntsIn wx (.slice aL xs.length cL) xs) ∧ Hid (IntsIn wx (.slice aS ys.length cS) ys))
  case first =>
    have HREL : Hid (∀ W, Below w4.heap.size w4 W → Hid (KpB w W [(v0.heap.size, t, p)]) ∧ Hid (IntsIn W (.slice aL xs.length cL) xs) ∧ Hid (IntsIn W (.slice aS ys.length cS) ys)) := Lib.hid (fun W hb => ⟨Lib.hid (KP4.out.next hb), Lib.hid (LvL.out.kept hb), Lib.hid (LvS.out.kept hb)⟩)
    clear FB FS NX NY HN HA LvL LvR LvS LvT KP4 HM
    go_wp2_with (first
      | (go_at_call 10; refine (HS1.out _ (Below.refl _ _)).mono ?_; rintro e wa ⟨rfl, hba⟩; have HBa := Lib.hid hba; clear HS1 hba)
      | (go_at_call 10; refine (HS2.out _ HBa.out).mono ?_; rintro e wb ⟨rfl, hbb⟩; have HBb := Lib.hid (HBa.out.trans (hbb.mono HBa.out.size)); clear HS2 hbb))
    go_meet
    case rel => exact ⟨rfl, rfl, rfl, rfl, rfl, HREL.out _ HBb.out⟩
  case rest =>
    obtain ⟨rfl, rfl, rfl, rfl, rfl, KQ, QL, QS⟩ := hcut
    clear LvL LvR LvS LvT KP4 HS1 HS2
    go_upto_if 126 with fail
    go_cut [] from 16 to 21 (fun wx => Hid (KpB w wx [(v0.heap.size, t, p)]) ∧ Hid (IntsIn wx (.slice aS ys.length cS) ys))
    case first =>
      cases B
      · go_wp2_with fail
        go_meet
        case rel => exact ⟨KQ, QS⟩
      · obtain ⟨K, rfl, hK, hlen, hdbl, hmem⟩ := FB.out rfl
        obtain ⟨wq, rfl⟩ : ∃ wq : World, wq = wc := ⟨_, rfl⟩
        have HMM := Lib.hid hmem
        have HDB := Lib.hid hdbl
        have HKP : Hid (∀ W, Below wq.heap.size wq W → KpB w W [(v0.heap.size, t, p)]) := Lib.hid fun W hb => KQ.out.next hb
        have HSY : Hid (∀ W, Below wq.heap.size wq W → IntsIn W (.slice aS ys.length cS) ys) := Lib.hid fun W hb => QS.out.kept hb
        have HLC : Hid (∀ m, m < xs.length → ∃ gL, aL = some ⟨gL, 0, none⟩ ∧ gL < wq.heap.size ∧ wq.cell? ⟨gL, m, none⟩ = some (.int .i64 (xs.getD m 0))) := Lib.hid (by
          obtain ⟨_, _, h1, h2⟩ := QL.out.at
          injection h1 with h3 h4 h5
          subst h3
          exact h2)
        have hK2 : (K : Int) ≤ 20 := by omega
        have hl2 : (xs.length : Int) ≤ (K : Int) + 1 := by omega
        clear hmem hdbl KQ QL QS FB FS HA NX NY HM
        generalize hL : xs.length = L at *
        have HL := Lib.hid hL
        clear hL
        go_wp2_with fail
        go_loopw [134] (fun i wr => ∃ j : Nat, j ≤ L ∧ i = .int .i64 j ∧ Hid (Below wq.heap.size wq wr)) (fun i _ => L - (RowKit.intOf i).toNat)
        case atStart => exact ⟨0, Nat.zero_le _, rfl, Lib.hid (Below.refl _ _)⟩
        case round =>
          obtain ⟨j, hj, rfl, HW⟩ := hrel
          by_cases hjl : j < L
          · obtain ⟨x, hx⟩ : ∃ x, xs.getD j 0 = x := ⟨_, rfl⟩
            have hxm : x ∈ xs := by rw [← hx, List.getD_eq_getElem?_getD, List.getElem?_eq_getElem (by have := HL.out; omega)]; exact List.getElem_mem _
            obtain ⟨gL, rfl, hgL, hc⟩ := HLC.out j hjl
            have q := (HW.out.cell (p := ⟨gL, j, none⟩) hgL).trans hc
            rw [hx] at q
            have hj2 : (j : Int) < (L : Int) := by omega
            obtain ⟨hxn, hxo, e, heK, haf⟩ := HMM.out x hxm
            have N1 : Hid (∀ w, Calls Try.prog 11 #[.agg #[.int .i64 t, .int .i64 p], .int .i64 x] w fun e' w' => e' = .returned (.tuple #[.int .i64 (n * 2 ^ e), .bool true]) ∧ Below w.heap.size w w') := Lib.hid fun w => by
              have h1 := HN.out x w
              rwa [haf] at h1
            have hzo : ¬ x.tmod 2 = 0 := by have h1 := oddB_tmod x; rw [oddB, decide_eq_true hxo] at h1; simpa using h1
            have HZO := Lib.hid hzo
            have K1 := HKP.out _ HW.out
            obtain ⟨c0, c1⟩ : wr.cell? ⟨v0.heap.size, 0, none⟩ = some (.int .i64 t) ∧ wr.cell? ⟨v0.heap.size, 1, none⟩ = some (.int .i64 p) := K1.get (by simp)
            obtain ⟨wo, rfl⟩ : ∃ wo : World, wo = wr := ⟨_, rfl⟩
            clear hx hxm hc hgL hxn hxo haf HN HMM HLC HKP HSY K1
            go_wp2_with (go_at_call 11; refine (N1.out _).mono ?_; rintro e' wa ⟨rfl, hba⟩; have HBa := Lib.hid (HW.out.trans (hba.mono HW.out.size)); clear N1 hba c0 c1)
            go_loop [20, 21] (fun fd i => ∃ (m : Nat) (b : Bool), m ≤ K + 1 ∧ i = .int .i64 m ∧ fd = .bool b ∧ (e < m → b = true)) (fun _ i => K + 1 - (RowKit.intOf i).toNat)
            case atStart => exact ⟨0, false, Nat.zero_le _, rfl, rfl, fun h => absurd h (Nat.not_lt_zero _)⟩
            case round =>
              obtain ⟨m, b, hm, rfl, rfl, hb⟩ := hrel
              have HBB := Lib.hid hb
              clear hb
              by_cases hmK : m < K + 1
              · have hmK2 : (m : Int) ≤ (K : Int) := by omega
                obtain ⟨d1, d2⟩ := numB_iff.1 (HDB.out m (by omega))
                cases b
                · go_wp2
                  exact ⟨⟨m + 1, (n * 2 ^ e == n * 2 ^ m), hmK, by go_num, rfl, fun h => by
                    by_cases he : e = m
                    · subst he; exact beq_self_eq_true _
                    · have h2 := HBB.out (by omega)
                      cases h2⟩, by simp [RowKit.intOf]; omega⟩
                · go_wp2
                  exact ⟨⟨m + 1, true, hmK, by go_num, rfl, fun _ => rfl⟩, by simp [RowKit.intOf]; omega⟩
              · obtain rfl : m = K + 1 := by omega
                have hmK2 : ¬ ((K : Int) + 1 ≤ (K : Int)) := by omega
                obtain rfl : b = true := HBB.out (by omega)
                go_wp2_with fail
                exact ⟨⟨j + 1, hjl, by go_num, HBa⟩, by simp [RowKit.intOf]; omega⟩
          · obtain rfl : j = L := by omega
            have hj2 : ¬ ((j : Int) < (j : Int)) := by omega
            have HKE := Lib.hid (HKP.out _ HW.out)
            have HSE := Lib.hid (HSY.out _ HW.out)
            clear HN HMM HDB HKP HSY HLC
            go_wp2_with fail
            go_meet
            case rel => exact ⟨HKE, HSE⟩
    case rest =>
      obtain ⟨KR, QT⟩ := hcut
      clear FB NX HN KQ QL QS
      go_upto_if 169 with fail
      go_cut [] from 22 to 25 (fun wx => Hid (KpB w wx [(v0.heap.size, t, p)]))
      case first =>
        cases C
        · go_wp2_with fail
          go_meet
          case rel => exact KR
        · obtain ⟨K, rfl, hK, hris, hmem⟩ := FS.out rfl
          obtain ⟨wq, rfl⟩ : ∃ wq : World, wq = wc := ⟨_, rfl⟩
          have HRI : Hid (∀ W, Below wq.heap.size wq W → Calls Try.prog 12 #[.slice aS ys.length cS] W fun e w' => e = .returned (.bool true) ∧ Below W.heap.size W w') := Lib.hid fun W hb => rRises_any ys _ W (by have := NY.out; omega) hris (QT.out.kept hb)
          have HAX : Hid (∀ x ∈ ys, ∀ w, Calls Try.prog 13 #[.agg #[.int .i64 t, .int .i64 p], .int .i64 x, .int .i64 (K : Int)] w fun e w' => e = .returned (.tuple #[.int .i64 n, .bool true]) ∧ Below w.heap.size w w') := Lib.hid fun x hx w => by
            have h1 := HA.out x w
            rwa [(hmem x hx).2] at h1
          have HKP : Hid (∀ W, Below wq.heap.size wq W → KpB w W [(v0.heap.size, t, p)]) := Lib.hid fun W hb => KR.out.next hb
          have HLC : Hid (∀ m, m < ys.length → ∃ gL, aS = some ⟨gL, 0, none⟩ ∧ gL < wq.heap.size ∧ wq.cell? ⟨gL, m, none⟩ = some (.int .i64 (ys.getD m 0))) := Lib.hid (by
            obtain ⟨_, _, h1, h2⟩ := QT.out.at
            injection h1 with h3 h4 h5
            subst h3
            exact h2)
          have hl2 : (ys.length : Int) ≤ 2000 := by have := NY.out; omega
          clear hmem hris KR QT FS HA NY HM hK
          generalize hL : ys.length = L at *
          have HL := Lib.hid hL
          clear hL
          go_wp2_with (go_at_call 12; refine (HRI.out _ (Below.refl _ _)).mono ?_; rintro e w1 ⟨rfl, hba⟩; have HQ := Lib.hid hba; clear HRI hba)
          go_loopw [175] (fun i wr => ∃ j : Nat, j ≤ L ∧ i = .int .i64 j ∧ Hid (Below wq.heap.size wq wr)) (fun i _ => L - (RowKit.intOf i).toNat)
          case atStart => exact ⟨0, Nat.zero_le _, rfl, HQ⟩
          case round =>
            obtain ⟨j, hj, rfl, HW⟩ := hrel
            by_cases hjl : j < L
            · obtain ⟨x, hx⟩ : ∃ x, ys.getD j 0 = x := ⟨_, rfl⟩
              have hxm : x ∈ ys := by rw [← hx, List.getD_eq_getElem?_getD, List.getElem?_eq_getElem (by have := HL.out; omega)]; exact List.getElem_mem _
              obtain ⟨gL, rfl, hgL, hc⟩ := HLC.out j hjl
              have q := (HW.out.cell (p := ⟨gL, j, none⟩) hgL).trans hc
              rw [hx] at q
              have hj2 : (j : Int) < (L : Int) := by omega
              have N1 := Lib.hid (HAX.out x hxm)
              have K1 := HKP.out _ HW.out
              obtain ⟨c0, c1⟩ : wr.cell? ⟨v0.heap.size, 0, none⟩ = some (.int .i64 t) ∧ wr.cell? ⟨v0.heap.size, 1, none⟩ = some (.int .i64 p) := K1.get (by simp)
              clear hx hxm hc hgL HAX HLC K1 HQ
              go_wp2_with (go_at_call 13; refine (N1.out _).mono ?_; rintro e' wa ⟨rfl, hba⟩; have HBa := Lib.hid (HW.out.trans (hba.mono HW.out.size)); clear N1 hba c0 c1)
              exact ⟨⟨j + 1, hjl, by go_num, HBa⟩, by simp [RowKit.intOf]; omega⟩
            · obtain rfl : j = L := by omega
              have hj2 : ¬ ((j : Int) < (j : Int)) := by omega
              have HKE := Lib.hid (HKP.out _ HW.out)
              clear HAX HKP HLC HQ
              go_wp2_with fail
              go_meet
              case rel => exact HKE
      case rest =>
        refine ‹∀ (a : Act) (w : World), Code.wp _ _ _ a w → _› _ _ ?_
        exact tl_rest _ w wc (Lib.hid hcut.out.2) HM _ _ _ _ _ _ _ _ _ _ _ _ _ _ _ _ _ _ _ _ _ _ _ _ _ _ _ _ _ _ _ _ _ _ _ _ _ _ _ _ _ _ _ _ _ _ _ _ _ _ _ _ _ _ _ _ _ _ _ _ _ _ _ _ _ _ _ _ _ _ _ _ _ _ _ _ _ _ _ _ _ _ _ _ _ _ _ _ _ _ _ _ _ _ _ _ _ _ _ _ _ _ _ _ _ _ _ _ _ _ _ _ _ _ _ _ _ _ _ _ _ _ _ _ _ _ _ _ _ _ _ _ _ _ _ _ _ _ _ _ _ _ _ _ _ _ _ _ _ _ _ _ _ _ _ _ _ _ _ _ _ _ _ _ _ _ _ _ _ _ _ _ _ _ _ _ _ _ _ _ _ _ _ _ _ _ _ _ _ _ _ _ _ _ _ _ _ _ _ _ _ _ _ _ _ _ _ _ _ _ _ _ _ _ _ _ _ _ _ _ _ _ _ _ _ _ _ _ _ _ _ _ _ _ _ _ _ _ _ _ _ _ _ _ _ _ _ _ _ _ _ _ _ _ _ _ _ _ _ _ _ _ _ _ _ _ _ _ _ _ _ _ _ _ _ _ _ _ _ _ _ _ _ _ _ _ _ _ _ _ _ _ _ _ _ _ _ _ _ _ _ _ _ _ _ _ _ _ _ _ _ _ _ _ _ _ _ _ _ _ _ _ _ _ _ _ _ _ _ _ _ _ _ _ _ _ _ _ _ _ _ _ _ _ _ _ _ _ _ _ _ _ _ _ _ _ _ _ _ _ _ _ _ _ _ _ _ _ _ _ _ _ _ _ _ _ _ _ _ _ _ _ _ _ _ _ _ _ _ _ _ _ _ _ _ _ _ _ _ _ _ _ _ _ _ _ _ _ _ _ _ _ _ _ _ _ _ _ _ _ _ _ _ _ _ _ _ _ _ _ _ _ _ _ _ _ _ _ _ _ _ _ _ _ _ _ _ _ _ _ _ _ _ _ _ _ _ _ _ _ _ _ _ _ _ _ _ _ _ _ _ _ _ _ _ _ _ _ _ _ _ _ _ _ _ _ _ _ _ _ _ _ _ _ _ _ _ _ _ _ _ _ _ _ _ _ _ _ _
end Go.Proofs.Ytjcpdlamgjpmmaa
