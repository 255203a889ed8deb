/-
  'LowTerms' of the model.
-/
import Derived.Test.YthafciggchdmpaaLwtI
import Derived.IntWalk
namespace Go.Proofs.Ythafciggchdmpaa
open Go.RowKit
set_option linter.unusedVariables false

theorem app_facts {w wr W w5 : World} {A R O k : Nat} {x y x' y' x'' y'' u1 : Value} {vs : List Value} (hA : Bx wr A x y) (hR : BxF wr R x' y') (hO : BxF wr O x'' y'') (hB : Below w.heap.size w wr) (h1 : wr.ownsRow (O + 1) 3 1 u1 k vs)
    (hOA : A < O + 1) (hOR : R < O + 1) (hg : W.grownBy w5 u1.ownBlock) (hb : Below wr.heap.size wr W) (hn : w.heap.size ≤ O + 1 := by omega) : Bx w5 A x y ∧ BxF w5 R x' y' ∧ BxF w5 O x'' y'' ∧ Below w.heap.size w w5 :=
  ⟨hA.grown h1 hOA hb hg, hR.grown h1 hOR hb hg, hO.grown h1 (Nat.lt_succ_self _) hb hg, (hB.trans (hb.mono hB.size)).grown hg (Nat.le_trans hB.size hb.size) (fun k e => Nat.le_trans hn (World.ownsRow.lt h1 k e).1)⟩
theorem step_append_own_at {P : Program} {ops : Array Oper} {o : Oper} {a : Act} {w : World} {K : Act → World → Prop} {Q : Exit → Act → World → Prop} {E : Prop} (hgd : o.guard = none) (s x : Operand) (t : TypeId)
    (ho : o.op = .call { callee := .builtin .append, args := #[s, x], argTypes := #[t, t] })
    (base : Nat) (e : TypeId) (i : TypeInfo) (z : Value) (size bytes : Nat) (ht : P.underlying t = some (.slice e)) (hi : P.info? e = some i) (hz : i.zero = some z)
    (hsize : i.size = size) (hby : i.bytes = bytes) (hzs : z.cells.size = size) (hsz : 0 < size)
    (v : Value) (n : Nat) (xs : List Value) (hs : a.eval s = v) (hown : w.ownsRow base e size v n xs)
    (ad : Addr) (m c : Nat) (news : List Value) (hx : a.eval x = .slice (some ad) m c) (hl : news.length = m * size) (hnews : ∀ j u, news[j]? = some u → w.cell? (ad.add j) = some u) (h1 : ∀ u ∈ news, u.oneCell' = true)
    (h63 : n + m ≤ maxLen) (hbytes : (n + m) * bytes ≤ 140737488355328) (hbase : base ≤ w.heap.size)
    (h : ∀ v' w', w'.ownsRow base e size v' (n + m) (xs ++ news) → w.grownBy w' v.ownBlock → (v'.ownBlock = v.ownBlock ∨ v'.ownBlock = some w.heap.size) → K (a.put o.dst v') w') :
    if Region.wanted o (yielded ops a.tmps) = true then Oper.wp P o a w K Q else E := by
  rw [if_pos (by simp [Region.wanted, hgd])]
  obtain ⟨v', w', hr, h2, h3, h4, h5⟩ := run_append_own_at (P := P) w base t o.type e i z size bytes ht hi hz hsize hby hzs hsz v n xs hown ad m c news hl hnews h1 h63 hbytes hbase
  unfold Oper.wp execOp
  simp only [ho, resolve, invoke, builtin, Sem.run_bind, Sem.run_pure, Result.andThen_ok, List.map_toArray, List.map_cons, List.map_nil, hs, hx, hr]
  exact h v' w' h2 h3 h5

set_option maxRecDepth 100000 in
set_option maxHeartbeats 4000000 in
theorem sLowTerms (ns ds : List Int) (v : Value) (w : World) (l1 : ns.length ≤ 1048576) (l2 : ds.length ≤ 1048576) (h : MacIn w v ns ds) :
    Calls Try.prog 25 #[v] w (RetMac (lwtN ns ds) (lwtD ns ds) (maB ns ds) w) := by
  obtain ⟨v1, v2, rfl, i1, i2⟩ := h
  obtain ⟨i0, hi, hi0, hi1, hi2⟩ := info_parts info3
  have A := Lib.hid ((Bx.new w v1 v2 34).grow (.cells #[.slice none 0 0, .slice none 0 0] 34))
  have R : Hid (BxF ((w.alloc (.cells #[v1, v2] 34)).alloc (.cells #[.slice none 0 0, .slice none 0 0] 34)) (w.heap.size + 1) (.slice none 0 0) (.slice none 0 0)) := Lib.hid (by
    have := BxF.new (w.alloc (.cells #[v1, v2] 34)) (.slice none 0 0) (.slice none 0 0) 34
    rw [show (w.alloc (.cells #[v1, v2] 34)).heap.size = w.heap.size + 1 by simp] at this
    exact this)
  have HB : Hid (Below w.heap.size w ((w.alloc (.cells #[v1, v2] 34)).alloc (.cells #[.slice none 0 0, .slice none 0 0] 34))) := Lib.hid ((below_alloc w _).alloc (by simp) _)
  have M := Lib.hid ((MacIn.agg i1 i2).kept HB.out)
  have HG := Lib.hid (fun W hm => maGood_any ns ds (.agg #[v1, v2]) W l1 l2 hm)
  by_cases hg : maB ns ds = true
  case neg =>
    have hg' : maB ns ds = false := by simpa using hg
    obtain ⟨e1, e2⟩ := lwt_no hg'
    rw [e1, e2, hg']
    rw [hg'] at HG
    clear hg hg' e1 e2 i1 i2
    go_enter Try.func25, Try.ntmps25
    go_wp2_with fail
    refine (HG.out _ M.out).mono ?_
    rintro e w1 ⟨rfl, hb1⟩
    replace R := Lib.hid (R.out.kept hb1)
    replace HB := Lib.hid (HB.out.trans (hb1.mono HB.out.size))
    clear hb1
    obtain ⟨⟨r0, r1, r2⟩, r3, r4⟩ := R.out
    go_wp2_with fail
    refine bodyPost_ret (v := .tuple #[.agg #[.slice none 0 0, .slice none 0 0], .bool false]) (by simp [results, Try.f25, go_sem, r0, r1]) rfl ⟨_, rfl, macAt_nil _ _ _ (Nat.le_refl _), ?_⟩
    exact (HB.out.setCell (by simp) _).setCell (by simp) _
  case pos =>
    obtain ⟨hl, h12, hns, hds⟩ := maB_parts hg
    obtain ⟨e1, e2⟩ := lwt_yes hg
    rw [e1, e2, hg]
    rw [hg] at HG
    have HNS := Lib.hid hns
    have HDS := Lib.hid hds
    have HSN := Lib.hid (fun j => lwN_succ ns ds j)
    have HSD := Lib.hid (fun j => lwD_succ ns ds j)
    have HLN := Lib.hid (fun j => lwN_len ns ds j)
    have HLD := Lib.hid (fun j => lwD_len ns ds j)
    clear hg e1 e2 hns hds
    go_enter Try.func25, Try.ntmps25
    go_wp2_with fail
    refine (HG.out _ M.out).mono ?_
    rintro e w1 ⟨rfl, hb1⟩
    replace A := Lib.hid (A.out.kept hb1)
    replace R := Lib.hid (R.out.kept hb1)
    replace HB := Lib.hid (HB.out.trans (hb1.mono HB.out.size))
    have hz1 : w.heap.size + 1 < w1.heap.size := R.out.1.2.2
    clear hb1 M HG
    obtain ⟨a0, a1, a2⟩ := A.out
    obtain ⟨b1, c1, rfl, x1⟩ := i1.rd
    obtain ⟨b2, c2, rfl, x2⟩ := i2.rd
    have HX1 := Lib.hid x1
    have HX2 := Lib.hid x2
    clear x1 x2 i1 i2
    have hn1 : ¬ w1.heap.size = w.heap.size := by omega
    have hn2 : ¬ w.heap.size = w1.heap.size := by omega
    go_wp2_with fail
    have A2 := Lib.hid (A.out.grow (.cells #[.slice none 0 0, .slice none 0 0] 34))
    have R2 := Lib.hid (R.out.kept (below_alloc w1 (.cells #[.slice none 0 0, .slice none 0 0] 34)))
    have O2 := Lib.hid (BxF.new w1 (.slice none 0 0) (.slice none 0 0) 34)
    have HB2 := Lib.hid (HB.out.trans ((below_alloc w1 (.cells #[.slice none 0 0, .slice none 0 0] 34)).mono HB.out.size))
    clear A R HB a0 a1 a2
    obtain ⟨K, hK⟩ : ∃ K, ns.length = K := ⟨_, rfl⟩
    rw [hK] at hl h12 HNS HDS HX1 A2 ⊢
    rw [← hl] at HX2 A2 ⊢
    have hK2 : (K : Int) ≤ 12 := by omega
    have HEQN : Hid (lwN ns ds ns.length = lwN ns ds K) := Lib.hid (by rw [hK])
    have HEQD : Hid (lwD ns ds ns.length = lwD ns ds K) := Lib.hid (by rw [hK])
    clear hK hl l1 l2
    go_loopw [16] (fun i wr => ∃ (j : Nat) (u1 u2 : Value), j ≤ K ∧ i = .int .i64 j ∧ Bx wr w.heap.size (.slice b1 K c1) (.slice b2 K c2) ∧ BxF wr (w.heap.size + 1) (.slice none 0 0) (.slice none 0 0) ∧ BxF wr w1.heap.size u1 u2 ∧ LwAt wr (w1.heap.size + 1) u1 u2 (lwN ns ds j) (lwD ns ds j) ∧ Below w.heap.size w wr) (fun i _ => K - (RowKit.intOf i).toNat)
    case atStart => exact ⟨0, .slice none 0 0, .slice none 0 0, Nat.zero_le _, rfl, A2.out, R2.out, O2.out, ⟨intsAt_nil _ _, intsAt_nil _ _, fun g e => by cases e⟩, HB2.out⟩
    case round =>
      obtain ⟨j, u1, u2, hj, rfl, A, R, O, HL, HB⟩ := hrel
      replace A := Lib.hid A
      replace R := Lib.hid R
      replace O := Lib.hid O
      replace HL := Lib.hid HL
      replace HB := Lib.hid HB
      clear A2 R2 O2 HB2
      by_cases hlt : j < K
      · obtain ⟨g1, rfl, k1, q1⟩ := HX1.out j hlt
        obtain ⟨g2, rfl, k2, q2⟩ := HX2.out j hlt
        have hx := HNS.out j hlt
        have hy := HDS.out j hlt
        have HSN1 := HSN.out j
        have HSD1 := HSD.out j
        replace q1 := (HB.out.cell (p := ⟨g1, j, none⟩) k1).trans q1
        have q20 := q2
        replace q2 := (HB.out.cell (p := ⟨g2, j, none⟩) k2).trans q2
        have e0 : gcI ns ds j = (Int.gcd (ns.getD j 0) (ds.getD j 0) : Nat) := rfl
        rw [e0] at HSN1 HSD1
        generalize ns.getD j 0 = x at *
        generalize ds.getD j 0 = y at *
        have hgx := gc_bound (b := y) hx.1 hx.2
        have hgy := gc_bound (b := x) hy.1 hy.2
        rw [show Int.gcd y x = Int.gcd x y from Int.gcd_comm _ _] at hgy
        have hgp := gcd_pos (a := x) (b := y) (by omega)
        have hgl := gcd_le (a := x) (b := y) (B := 100000) (by omega) (by omega)
        have HG0 := Lib.hid (fun u v => gcd_tmod u v)
        have HGZ := Lib.hid (fun u => gcd_zero u)
        obtain ⟨G, hG⟩ : ∃ G : Int, ((Int.gcd x y : Nat) : Int) = G := ⟨_, rfl⟩
        rw [hG] at hgx hgy hgp hgl HSN1 HSD1
        have HG := Lib.hid hG
        have HS1 := Lib.hid HSN1
        have HS2 := Lib.hid HSD1
        have hlt2 : (j : Int) < (K : Int) := by omega
        have hj0 : (0 : Int) ≤ (j : Int) := by omega
        obtain ⟨a0, a1, a2⟩ := A.out
        obtain ⟨hga1, hga2⟩ := hgx
        obtain ⟨hgb1, hgb2⟩ := hgy
        obtain ⟨hx1, hx2⟩ := hx
        obtain ⟨hy1, hy2⟩ := hy
        have HXG := Lib.hid (And.intro hga1 hga2)
        have HYG := Lib.hid (And.intro hgb1 hgb2)
        clear HSN1 HSD1 e0 hG hga1 hga2 hgb1 hgb2
        have HKB := Lib.hid (And.intro q20 k2)
        go_wp2_with fail
        go_quiet (fail)
        go_wp2_with fail
        obtain ⟨wo, rfl⟩ : ∃ wo : World, wo = wr := ⟨_, rfl⟩
        go_loopw [7, 8] (fun m n wz => ∃ u v : Int, m = .int .i64 u ∧ n = .int .i64 v ∧ Int.gcd u v = Int.gcd x y ∧ 0 ≤ u ∧ u ≤ 100000 ∧ 0 ≤ v ∧ v ≤ 100000 ∧ Below wo.heap.size wo wz) (fun _ n _ => (RowKit.intOf n).natAbs)
        case atStart => exact ⟨x, y, rfl, rfl, rfl, by omega, by omega, by omega, by omega, by first | exact Below.refl _ _ | exact below_drewN (Below.refl _ _) _⟩
        case round =>
          obtain ⟨u, v, rfl, rfl, hg, u0, u1, v0, v1, hbz⟩ := hrel
          have HBZ := Lib.hid hbz
          have HGC := Lib.hid hg
          clear hg hbz
          by_cases hv : 0 < v
          · have em : u.tmod v = u % v := Int.tmod_eq_emod_of_nonneg u0
            have HT := Lib.hid ((HG0.out u v).trans HGC.out)
            have hm0 : 0 ≤ u.tmod v := by rw [em]; exact Int.emod_nonneg _ (by omega)
            have hm1 : u.tmod v < v := by rw [em]; exact Int.emod_lt_of_pos _ hv
            have HM := Lib.hid (And.intro hm0 hm1)
            have HEM := Lib.hid em
            have hv1 : ¬ v = 0 := by omega
            clear em
            go_wp2_with fail
            go_quiet (fail)
            go_wp2_with fail
            exact ⟨⟨v, u % v, rfl, rfl, by rw [← HEM.out]; exact HT.out, by omega, by omega, by rw [← HEM.out]; exact HM.out.1, by rw [← HEM.out]; have := HM.out.2; omega, below_drewN HBZ.out _⟩, by simp only [RowKit.intOf]; rw [← HEM.out]; have := HM.out; omega⟩
          · obtain rfl : v = 0 := by omega
            have hgu : u = G := by
              have := HGZ.out u
              rw [if_pos u0, HGC.out, HG.out] at this
              exact this.symm
            subst hgu
            have A := Lib.hid (A.out.kept HBZ.out)
            have R := Lib.hid (R.out.kept HBZ.out)
            have O := Lib.hid (O.out.kept HBZ.out)
            have HL := Lib.hid (HL.out.kept HBZ.out)
            have HB := Lib.hid (HB.out.trans (HBZ.out.mono HB.out.size))
            have hwx : w1.heap.size < wr.heap.size := O.out.1.2.2
            obtain ⟨p1, d1, rfl⟩ := HL.out.h1.form
            obtain ⟨p2, d2, rfl⟩ := HL.out.h2.form
            rw [HLN.out, HLD.out] at O HL
            obtain ⟨o0, o1, o2⟩ := O.out.1
            have of0 := O.out.2.1
            have of1 := O.out.2.2
            obtain ⟨a0, a1, a2⟩ := A.out
            have H1 : Hid (∀ W, Below wr.heap.size wr W → W.ownsRow (w1.heap.size + 1) 3 1 (.slice p1 j d1) j ((lwN ns ds j).map (Value.int .i64))) := Lib.hid (fun W hb => by have := (HL.out.kept hb).h1; unfold IntsAt at this; rwa [HLN.out] at this)
            have hj3 : j + 1 ≤ maxLen := by unfold maxLen; omega
            have hn1 : ¬ wr.heap.size = w1.heap.size := by omega
            have hn2 : ¬ w1.heap.size = wr.heap.size := by omega
            have hu0 : ¬ u = 0 := by omega
            have hq0 : 0 ≤ x / u := HXG.out.1
            have hq1 : x / u ≤ 100000 := HXG.out.2
            have hwr : IntKind.i64.wrap (x.tdiv u) = x / u := by rw [Int.tdiv_eq_ediv_of_nonneg (by omega)]; exact IntWalk.i64_in _ (by omega)
            clear HGC HG HGZ HG0 HBZ
            have hOA : w.heap.size < w1.heap.size + 1 := by omega
            have hOR : w.heap.size + 1 < w1.heap.size + 1 := by omega
            have HLW : Hid (∀ (W w5 : World) (a5 : Option Addr) (c5 : Nat), Below wr.heap.size wr W → w5.ownsRow (w1.heap.size + 1) 3 1 (.slice a5 (j + 1) c5) (j + 1) ((lwN ns ds j).map (Value.int .i64) ++ [.int .i64 (x / u)]) → W.grownBy w5 (Value.slice p1 j d1).ownBlock → ((Value.slice a5 (j + 1) c5).ownBlock = (Value.slice p1 j d1).ownBlock ∨ (Value.slice a5 (j + 1) c5).ownBlock = some W.heap.size) → LwAt w5 (w1.heap.size + 1) (.slice a5 (j + 1) c5) (.slice p2 j d2) (lwN ns ds (j + 1)) (lwD ns ds j)) := Lib.hid (fun W w5 a5 c5 hb ho hg ht => by rw [HS1.out]; exact HL.out.snoc hb (by rw [HLN.out]; exact ho) hg ht)
            have HLW : Hid (∀ (W w5 : World) (a5 : Option Addr) (c5 : Nat), Below wr.heap.size wr W → w5.ownsRow (w1.heap.size + 1) 3 1 (.slice a5 (j + 1) c5) (j + 1) ((lwN ns ds j).map (Value.int .i64) ++ [.int .i64 (x / u)]) → W.grownBy w5 (Value.slice p1 j d1).ownBlock → ((Value.slice a5 (j + 1) c5).ownBlock = (Value.slice p1 j d1).ownBlock ∨ (Value.slice a5 (j + 1) c5).ownBlock = some W.heap.size) → LwAt w5 (w1.heap.size + 1) (.slice a5 (j + 1) c5) (.slice p2 j d2) (lwN ns ds (j + 1)) (lwD ns ds j)) := Lib.hid (fun W w5 a5 c5 hb ho hg ht => by rw [HS1.out]; exact HL.out.snoc hb (by rw [HLN.out]; exact ho) hg ht)
            go_upto_region 10 with fail
            go_cut [] from 33 to 40 (fun wx => ∃ p5 d5, Hid (Bx wx w.heap.size (.slice (some ⟨g1, 0, none⟩) K c1) (.slice (some ⟨g2, 0, none⟩) K c2)) ∧ Hid (BxF wx (w.heap.size + 1) (.slice none 0 0) (.slice none 0 0)) ∧ Hid (BxF wx w1.heap.size (.slice p5 (j + 1) d5) (.slice p2 j d2)) ∧ Hid (LwAt wx (w1.heap.size + 1) (.slice p5 (j + 1) d5) (.slice p2 j d2) (lwN ns ds (j + 1)) (lwD ns ds j)) ∧ Hid (Below w.heap.size w wx))
            case first =>
              go_region_law (refine step_append_own_at rfl (.tmp 34) (.tmp 38) 32 rfl (w1.heap.size + 1) 3 i0 (.int .i64 0) 1 8 Try.underlying32 hi hi0 hi1 hi2 rfl (by decide) _ _ _ (by simp [Act.eval]) (H1.out _ (by first | exact below_alloc wr _ | exact (below_alloc wr _).drew | exact (Below.refl _ _).drew.trans (below_alloc _ _) | exact ((Below.refl _ _).drew.trans (below_alloc _ _)).drew | exact ((Below.refl _ _).drew.drew.trans (below_alloc _ _)) | exact ((Below.refl _ _).drew.drew.trans (below_alloc _ _)).drew)) ⟨wr.heap.size, 0, none⟩ 1 1 [.int .i64 (x / u)] (by simp [Act.eval]) rfl (fun j u' hu => by first | exact new_cell_at _ _ _ (by simp) hu | exact new_cell_at wr (.int .i64 (x / u)) 3 rfl hu) (by simp [Value.oneCell']) hj3 (by omega) (by simp; omega) ?_; intro v5 w5 hown5 hgrow5 hat5; obtain ⟨p5, d5, rfl⟩ := own_form hown5; have HF := Lib.hid (app_facts A.out R.out O.out HB.out (H1.out _ (Below.refl _ _)) hOA hOR hgrow5 (by first | exact below_alloc wr _ | exact (below_alloc wr _).drew | exact (Below.refl _ _).drew.trans (below_alloc _ _) | exact ((Below.refl _ _).drew.trans (below_alloc _ _)).drew | exact ((Below.refl _ _).drew.drew.trans (below_alloc _ _)) | exact ((Below.refl _ _).drew.drew.trans (below_alloc _ _)).drew)); have HSN := Lib.hid (HLW.out _ _ _ _ (by first | exact below_alloc wr _ | exact (below_alloc wr _).drew | exact (Below.refl _ _).drew.trans (below_alloc _ _) | exact ((Below.refl _ _).drew.trans (below_alloc _ _)).drew | exact ((Below.refl _ _).drew.drew.trans (below_alloc _ _)) | exact ((Below.refl _ _).drew.drew.trans (below_alloc _ _)).drew) hown5 hgrow5 hat5); clear hown5 hgrow5 hat5; obtain ⟨⟨y0, y1, y2⟩, y3, y4⟩ := HF.out.2.2.1)
              all_goals
                go_wp2_with fail
                go_meet
                case rel => exact ⟨p5, d5, Lib.hid (HF.out.1.other (by omega) _), Lib.hid (HF.out.2.1.other (by omega) _), Lib.hid (HF.out.2.2.1.set0 _), Lib.hid (HSN.out.set (Nat.lt_succ_self _) _), Lib.hid (HF.out.2.2.2.setCell (p := ⟨w1.heap.size, 0, none⟩) (by simp; omega) _)⟩
            case rest =>
              obtain ⟨p5, d5, A6, R6, O6, L6, HB6⟩ := hcut
              have HBW := Lib.hid hwx
              clear A R O HL HB hwx o0 o1 o2 of0 of1 a0 a1 a2 H1 hn1 hn2 HLW hq0 hq1 hwr
              have A := A6
              have R := R6
              have O := O6
              have HB := HB6
              clear A6 R6 O6 HB6
              have hwx : w1.heap.size < wc.heap.size := O.out.1.2.2
              obtain ⟨o0, o1, o2⟩ := O.out.1
              have of0 := O.out.2.1
              have of1 := O.out.2.2
              obtain ⟨a0, a1, a2⟩ := A.out
              have k2 := HKB.out.2
              have hgb : g2 < wc.heap.size := Nat.lt_of_lt_of_le k2 HB.out.size
              have q2 := (HB.out.cell (p := ⟨g2, j, none⟩) k2).trans HKB.out.1
              have H1 : Hid (∀ W, Below wc.heap.size wc W → W.ownsRow (w1.heap.size + 1) 3 1 (.slice p2 j d2) j ((lwD ns ds j).map (Value.int .i64))) := Lib.hid (fun W hb => by have := (L6.out.kept hb).h2; unfold IntsAt at this; rwa [HLD.out] at this)
              have hn1 : ¬ wc.heap.size = w1.heap.size := by omega
              have hn2 : ¬ w1.heap.size = wc.heap.size := by omega
              have hn3 : ¬ wc.heap.size = w.heap.size := by omega
              have hn4 : ¬ w.heap.size = wc.heap.size := by omega
              have hn5 : ¬ wc.heap.size = g2 := by omega
              have hn6 : ¬ g2 = wc.heap.size := by omega
              have hq0 : 0 ≤ y / u := HYG.out.1
              have hq1 : y / u ≤ 100000 := HYG.out.2
              have hwr : IntKind.i64.wrap (y.tdiv u) = y / u := by rw [Int.tdiv_eq_ediv_of_nonneg (by omega)]; exact IntWalk.i64_in _ (by omega)
              have HLW : Hid (∀ (W w5 : World) (a5 : Option Addr) (c5 : Nat), Below wc.heap.size wc W → w5.ownsRow (w1.heap.size + 1) 3 1 (.slice a5 (j + 1) c5) (j + 1) ((lwD ns ds j).map (Value.int .i64) ++ [.int .i64 (y / u)]) → W.grownBy w5 (Value.slice p2 j d2).ownBlock → ((Value.slice a5 (j + 1) c5).ownBlock = (Value.slice p2 j d2).ownBlock ∨ (Value.slice a5 (j + 1) c5).ownBlock = some W.heap.size) → LwAt w5 (w1.heap.size + 1) (.slice p5 (j + 1) d5) (.slice a5 (j + 1) c5) (lwN ns ds (j + 1)) (lwD ns ds (j + 1))) := Lib.hid (fun W w5 a5 c5 hb ho hg ht => by rw [HS2.out]; exact (L6.out.sym.snoc hb (by rw [HLD.out]; exact ho) hg ht).sym)
              go_upto_region 11 with fail
              go_region_law (refine step_append_own_at rfl (.tmp 42) (.tmp 50) 32 rfl (w1.heap.size + 1) 3 i0 (.int .i64 0) 1 8 Try.underlying32 hi hi0 hi1 hi2 rfl (by decide) _ _ _ (by simp [Act.eval]) (H1.out _ (by first | exact below_alloc wc _ | exact (below_alloc wc _).drew | exact (Below.refl _ _).drew.trans (below_alloc _ _) | exact ((Below.refl _ _).drew.trans (below_alloc _ _)).drew | exact ((Below.refl _ _).drew.drew.trans (below_alloc _ _)) | exact ((Below.refl _ _).drew.drew.trans (below_alloc _ _)).drew)) ⟨wc.heap.size, 0, none⟩ 1 1 [.int .i64 (y / u)] (by simp [Act.eval]) rfl (fun j u' hu => by first | exact new_cell_at _ _ _ (by simp) hu | exact new_cell_at wc (.int .i64 (y / u)) 3 rfl hu) (by simp [Value.oneCell']) hj3 (by omega) (by simp; omega) ?_; intro v5 w8 hown5 hgrow5 hat5; obtain ⟨p8, d8, rfl⟩ := own_form hown5; have HF := Lib.hid (app_facts A.out R.out O.out HB.out (H1.out _ (Below.refl _ _)) hOA hOR hgrow5 (by first | exact below_alloc wc _ | exact (below_alloc wc _).drew | exact (Below.refl _ _).drew.trans (below_alloc _ _) | exact ((Below.refl _ _).drew.trans (below_alloc _ _)).drew | exact ((Below.refl _ _).drew.drew.trans (below_alloc _ _)) | exact ((Below.refl _ _).drew.drew.trans (below_alloc _ _)).drew)); have HSN := Lib.hid (HLW.out _ _ _ _ (by first | exact below_alloc wc _ | exact (below_alloc wc _).drew | exact (Below.refl _ _).drew.trans (below_alloc _ _) | exact ((Below.refl _ _).drew.trans (below_alloc _ _)).drew | exact ((Below.refl _ _).drew.drew.trans (below_alloc _ _)) | exact ((Below.refl _ _).drew.drew.trans (below_alloc _ _)).drew) hown5 hgrow5 hat5); clear hown5 hgrow5 hat5; obtain ⟨⟨y0, y1, y2⟩, y3, y4⟩ := HF.out.2.2.1)
              all_goals
                go_wp2_with fail
                exact ⟨⟨j + 1, .slice p5 (j + 1) d5, .slice p8 (j + 1) d8, hlt, by go_num, HF.out.1.other (by omega) _, HF.out.2.1.other (by omega) _, HF.out.2.2.1.set1 _, HSN.out.set (Nat.lt_succ_self _) _, HF.out.2.2.2.setCell (p := ⟨w1.heap.size, 1, none⟩) (by simp; omega) _⟩, by simp [RowKit.intOf]; omega⟩
      · obtain rfl : j = K := by omega
        have hlt2 : ¬ ((j : Int) < (j : Int)) := by omega
        obtain ⟨p1, d1, rfl⟩ := HL.out.h1.form
        obtain ⟨p2, d2, rfl⟩ := HL.out.h2.form
        rw [HLN.out, HLD.out] at O HL
        obtain ⟨o0, o1, o2⟩ := O.out.1
        obtain ⟨⟨r0, r1, r2⟩, r3, r4⟩ := R.out
        go_wp2_with fail
        refine bodyPost_ret (v := .tuple #[.agg #[.slice p1 j d1, .slice p2 j d2], .bool true]) (by simp [results, Try.f25, go_sem, r0, r1]) rfl ⟨_, rfl, ?_, ?_⟩
        · have hL := (HL.out.set (O := w.heap.size + 1) (k := 0) (by omega) (.slice p1 j d1)).set (O := w.heap.size + 1) (k := 1) (by omega) (.slice p2 j d2)
          have hlo : w.heap.size ≤ w1.heap.size + 1 := by omega
          exact lw_mac hL hlo HEQN.out HEQD.out (HLN.out j) (HLD.out j)
        · exact (HB.out.setCell (p := ⟨w.heap.size + 1, 0, none⟩) (by simp) _).setCell (p := ⟨w.heap.size + 1, 1, none⟩) (by simp) _
end Go.Proofs.Ythafciggchdmpaa
