/-
  THE WALK OF THE LAW 'TreesLead' ON BYTES: what is asked behind the second great condition: short numbers before, levels, paths to the root, trees.
-/
import Derived.Test.YtjcpdlamgjpmmaaTlM
import Derived.Test.YtjcpdlamgjpmmaaRlaw
import Derived.Test.YtjcpdlamgjpmmaaAfter
import Derived.Test.YtjcpdlamgjpmmaaDraw5
import Derived.Test.YtjcpdlamgjpmmaaArgB
import Derived.Deep.CutRange
import Derived.Deep.RegionWith
namespace Go.Proofs.Ytjcpdlamgjpmmaa
open Go.RowKit
set_option linter.unusedVariables false

/-- The region with which a text begins. -/
def firstReg : Code → Option Nat
  | .region n _ _ => some n
  | .seq a _ => firstReg a
  | _ => none
/-- What follows in a sequence, from a region on. -/
def restFrom (n : Nat) : Code → Option Code
  | .seq a b => if firstReg b = some n then some b else (match restFrom n a with
    | some c => some c
    | none => restFrom n b)
  | .block _ c => restFrom n c
  | .scope c => restFrom n c
  | _ => none
theorem cellsOfIn {W : World} {a : Option Addr} {cap : Nat} {xs : List Int} (h : IntsIn W (.slice a xs.length cap) xs) : ∀ m, m < xs.length → ∃ g, a = some ⟨g, 0, none⟩ ∧ g < W.heap.size ∧ W.cell? ⟨g, m, none⟩ = some (.int .i64 (xs.getD m 0)) := by
  obtain ⟨_, _, h1, h2⟩ := h.at
  injection h1 with h3 h4 h5
  subst h3
  exact h2
theorem mem_getD {xs : List Int} {j : Nat} (h : j < xs.length) : xs.getD j 0 ∈ xs := by
  rw [List.getD_eq_getElem?_getD, List.getElem?_eq_getElem h]
  exact List.getElem_mem _
noncomputable def tlTail : Code := ((Try.f3.body.bind (restFrom 50)).getD .skip)
set_option maxRecDepth 100000 in
set_option maxHeartbeats 16000000 in
theorem tl_tail (t1 p1 x t2 p2 r k y t3 p3 r3 k3 l : Int) (b1 b2 b3 : Nat) (bs : List Int) (C : Bool) (hbs : Hid (C = true → ∀ b ∈ bs, aft t1 p1 (sx t1 p1) b 1 = (x, true))) (hbl : bs.length ≤ 2000) (w wq : World) (KP : Hid (KpB w wq [(b3, t3, p3), (b2, t2, p2), (b1, t1, p1)])) (aB aP aT : Option Addr) (cB cP cT : Nat) (LB : Hid (IntsIn wq (.slice aB bs.length cB) bs)) (LP : Hid (IntsIn wq (.slice aP (ptX t2 p2 r k y).length cP) (ptX t2 p2 r k y))) (LT : Hid (IntsIn wq (.slice aT (itX t3 p3 r3 k3 l).length cT) (itX t3 p3 r3 k3 l))) (s0 s1 s2 s3 s4 s5 s6 s7 s8 s9 s10 s11 s12 s13 s14 s15 s16 s17 s18 s19 s20 s21 s22 s23 s24 s25 s30 s31 s38 s39 s42 s43 s45 s46 s47 s54 s55 s56 s57 s58 s59 s60 s61 s62 s63 s64 s65 s66 s67 s68 s69 s70 s71 s72 s73 s74 s75 s76 s77 s78 s79 s80 s81 s82 s83 s84 s85 s86 s87 s88 s89 s90 s91 s92 s93 s94 s95 s96 s97 s98 s99 s100 s101 s102 s103 s104 s105 s106 s107 s108 s109 s110 s111 s112 s113 s114 s115 s116 s117 s118 s119 s120 s121 s122 s123 s124 s125 s126 s127 s128 s129 s130 s131 s132 s133 s134 s135 s136 s137 s138 s139 s140 s141 s142 s143 s144 s145 s146 s147 s148 s149 s150 s151 s152 s153 s154 s155 s156 s157 s158 s159 s160 s161 s162 s163 s164 s165 s166 s167 s168 s169 s170 s171 s172 s173 s174 s175 s176 s177 s178 s179 s180 s181 s182 s183 s184 s185 s186 s187 s188 s189 s190 s191 s192 s193 s194 s195 s196 s197 s198 s199 s200 s201 s202 s203 s204 s205 s206 s207 s208 s209 s210 s211 s212 s213 s214 s215 s216 s217 s218 s219 s220 s221 s222 s223 s224 s225 s226 s227 s228 s229 s230 s231 s232 s233 s234 s235 s236 s237 s238 s239 s240 s241 s242 s243 s244 s245 s246 s247 s248 s249 s250 s251 s252 s253 s254 s255 s256 s257 s258 s259 s260 s261 s262 s263 s264 s265 s266 s267 s268 s269 s270 s271 s272 s273 s274 s275 s276 s277 s278 s279 s280 s281 s282 s283 s284 s285 s286 s287 s288 s289 s290 s291 s292 s293 s294 s295 s296 s297 s298 s299 s300 s301 s302 s303 s304 s305 s306 s307 s308 s309 s310 s311 s312 s313 s314 s315 s316 s317 s318 s319 s320 s321 s322 s323 s324 s325 s326 s327 s328 s329 s330 s331 s332 s333 s334 s335 s336 s337 s338 s339 s340 s341 s342 s343 s344 s345 s346 s347 s348 s349 s350 s351 s352 s353 s354 s355 s356 s357 s358 s359 s360 s361 s362 s363 s364 s365 s366 s367 s368 s369 s370 s371 s372 s373 s374 s375 s376 s377 s378 s379 s380 s381 s382 s383 s384 s385 s386 s387 s388 s389 s390 s391 s392 s393 s394 s395 s396 s397 s398 s399 s400 s401 s402 s403 s404 s405 s406 s407 s408 s409 s410 s411 s412 s413 s414 s415 s416 s417 s418 s419 s420 s421 s422 s423 s424 s425 s426 s427 s428 s429 s430 s431 s432 s433 s434 s435 s436 s437 s438 s439 s440 s441 s442 s443 s444 s445 s446 s447 s448 s449 s450 s451 s452 s453 s454 s455 s456 s457 s458 s459 s460 s461 s462 s463 s464 s465 s466 s467 s468 s469 s470 s471 s472 s473 s474 s475 s476 s477 s478 s479 s480 s481 s482 s483 s484 s485 s486 s487 s488 s489 s490 s491 s492 s493 s494 s495 s496 s497 s498 s499 s500 s501 s502 s503 s504 s505 s506 s507 s508 s509 : Value) :
    Code.wp Try.prog tlTail (bodyPost Try.prog Try.f3 fun e w' => e = .returned (.bool true) ∧ Below w.heap.size w w') ⟨#[s0, s1, s2, s3, s4, s5, s6, s7, s8, s9, s10, s11, s12, s13, s14, s15, s16, s17, s18, s19, s20, s21, s22, s23, s24, s25, .pointer (some ⟨b1, 0, none⟩), .int .i64 x, .slice aB bs.length cB, .bool C, s30, s31, .pointer (some ⟨b2, 0, none⟩), .int .i64 r, .int .i64 k, .int .i64 y, .bool (inX t2 p2 r k y), .bool (inY t2 p2 r k y), s38, s39, .int .i64 (((flO t2 p2 r k y).getD 0 : Nat) : Int), .bool (flO t2 p2 r k y).isSome, s42, s43, .slice aP (ptX t2 p2 r k y).length cP, s45, s46, s47, .pointer (some ⟨b3, 0, none⟩), .int .i64 r3, .int .i64 k3, .int .i64 l, .slice aT (itX t3 p3 r3 k3 l).length cT, .bool (itB t3 p3 r3 k3 l), s54, s55, s56, s57, s58, s59, s60, s61, s62, s63, s64, s65, s66, s67, s68, s69, s70, s71, s72, s73, s74, s75, s76, s77, s78, s79, s80, s81, s82, s83, s84, s85, s86, s87, s88, s89, s90, s91, s92, s93, s94, s95, s96, s97, s98, s99, s100, s101, s102, s103, s104, s105, s106, s107, s108, s109, s110, s111, s112, s113, s114, s115, s116, s117, s118, s119, s120, s121, s122, s123, s124, s125, s126, s127, s128, s129, s130, s131, s132, s133, s134, s135, s136, s137, s138, s139, s140, s141, s142, s143, s144, s145, s146, s147, s148, s149, s150, s151, s152, s153, s154, s155, s156, s157, s158, s159, s160, s161, s162, s163, s164, s165, s166, s167, s168, s169, s170, s171, s172, s173, s174, s175, s176, s177, s178, s179, s180, s181, s182, s183, s184, s185, s186, s187, s188, s189, s190, s191, s192, s193, s194, s195, s196, s197, s198, s199, s200, s201, s202, s203, s204, s205, s206, s207, s208, s209, s210, s211, s212, s213, s214, s215, s216, s217, s218, s219, s220, s221, s222, s223, s224, s225, s226, s227, s228, s229, s230, s231, s232, s233, s234, s235, s236, s237, s238, s239, s240, s241, s242, s243, s244, s245, s246, s247, s248, s249, s250, s251, s252, s253, s254, s255, s256, s257, s258, s259, s260, s261, s262, s263, s264, s265, s266, s267, s268, s269, s270, s271, s272, s273, s274, s275, s276, s277, s278, s279, s280, s281, s282, s283, s284, s285, s286, s287, s288, s289, s290, s291, s292, s293, s294, s295, s296, s297, s298, s299, s300, s301, s302, s303, s304, s305, s306, s307, s308, s309, s310, s311, s312, s313, s314, s315, s316, s317, s318, s319, s320, s321, s322, s323, s324, s325, s326, s327, s328, s329, s330, s331, s332, s333, s334, s335, s336, s337, s338, s339, s340, s341, s342, s343, s344, s345, s346, s347, s348, s349, s350, s351, s352, s353, s354, s355, s356, s357, s358, s359, s360, s361, s362, s363, s364, s365, s366, s367, s368, s369, s370, s371, s372, s373, s374, s375, s376, s377, s378, s379, s380, s381, s382, s383, s384, s385, s386, s387, s388, s389, s390, s391, s392, s393, s394, s395, s396, s397, s398, s399, s400, s401, s402, s403, s404, s405, s406, s407, s408, s409, s410, s411, s412, s413, s414, s415, s416, s417, s418, s419, s420, s421, s422, s423, s424, s425, s426, s427, s428, s429, s430, s431, s432, s433, s434, s435, s436, s437, s438, s439, s440, s441, s442, s443, s444, s445, s446, s447, s448, s449, s450, s451, s452, s453, s454, s455, s456, s457, s458, s459, s460, s461, s462, s463, s464, s465, s466, s467, s468, s469, s470, s471, s472, s473, s474, s475, s476, s477, s478, s479, s480, s481, s482, s483, s484, s485, s486, s487, s488, s489, s490, s491, s492, s493, s494, s495, s496, s497, s498, s499, s500, s501, s502, s503, s504, s505, s506, s507, s508, s509], []⟩ wq := by
  have HLV := Lib.hid (fun w => iLevelOf t2 p2 r k w)
  have HSN := Lib.hid (fun b w => iShortNext t1 p1 b w)
  have HNN := Lib.hid (fun b w => iNextNumber t2 p2 b w)
  have HFL := Lib.hid (fun z hz w => iFirstLevelOf t3 p3 r3 k3 z hz w)
  have FF : Hid (∀ j, flO t2 p2 r k y = some j → FlF t2 p2 r k y j) := Lib.hid (fun j h => flF h)
  have FI : Hid (itB t3 p3 r3 k3 l = true → ItF t3 p3 r3 k3 l) := Lib.hid (fun h => itF h)
  have FX : Hid (inY t2 p2 r k y = true → lvB false t2 p2 r k = true ∧ inX t2 p2 r k y = decide (y ∈ lvX false t2 p2 r k)) := Lib.hid (fun h => by
    have h1 := h
    rw [inY, Bool.and_eq_true] at h1
    exact ⟨h1.1, by rw [inX, h1.1, h1.2]; rfl⟩)
  have NV : Hid ((lvX false t2 p2 r k).length ≤ 2000) := Lib.hid (lvX_len false t2 p2 r k)
  generalize hpx : ptX t2 p2 r k y = px at *
  generalize htx : itX t3 p3 r3 k3 l = tx at *
  generalize hix : inX t2 p2 r k y = ix at *
  generalize hiy : inY t2 p2 r k y = iy at *
  have HPX := Lib.hid hpx
  have HTX := Lib.hid htx
  clear hpx htx hix hiy
  conv => arg 2; whnf
  go_upto_if 362 with fail
  go_cut [] from 57 to 59 (fun wx => Hid (KpB w wx [(b3, t3, p3), (b2, t2, p2), (b1, t1, p1)]) ∧ Hid (IntsIn wx (.slice aP px.length cP) px) ∧ Hid (IntsIn wx (.slice aT tx.length cT) tx))
  case first =>
    clear HLV HNN HFL FF FI FX NV HPX HTX
    cases C
    · go_wp2_with fail
      go_meet
      case rel => exact ⟨KP, LP, LT⟩
    · have HKP : Hid (∀ W, Below wq.heap.size wq W → KpB w W [(b3, t3, p3), (b2, t2, p2), (b1, t1, p1)] ∧ IntsIn W (.slice aP px.length cP) px ∧ IntsIn W (.slice aT tx.length cT) tx) := Lib.hid fun W hb => ⟨KP.out.next hb, LP.out.kept hb, LT.out.kept hb⟩
      have HLC := Lib.hid (cellsOfIn LB.out)
      have HAX : Hid (∀ j, j < bs.length → ∀ w, Calls Try.prog 27 #[.agg #[.int .i64 t1, .int .i64 p1], .int .i64 (bs.getD j 0)] w fun e w' => e = .returned (.tuple #[.int .i64 x, .bool true]) ∧ Below w.heap.size w w') := Lib.hid fun j hj w => by
        have h1 := HSN.out (bs.getD j 0) w
        rwa [hbs.out rfl _ (mem_getD hj)] at h1
      have hl2 : (bs.length : Int) ≤ 2000 := by omega
      clear KP LB LP LT hbs HSN hbl
      generalize hL : bs.length = L at *
      clear hL
      go_wp2_with fail
      go_loopw [365] (fun i wr => ∃ j : Nat, j ≤ L ∧ i = .int .i64 j ∧ Hid (Below wq.heap.size wq wr)) (fun i _ => L - (RowKit.intOf i).toNat)
      case atStart => exact ⟨0, Nat.zero_le _, rfl, Lib.hid (Below.refl _ _)⟩
      case round =>
        obtain ⟨j, hj, rfl, HW⟩ := hrel
        by_cases hjl : j < L
        · obtain ⟨gL, rfl, hgL, hc⟩ := HLC.out j hjl
          have q := (HW.out.cell (p := ⟨gL, j, none⟩) hgL).trans hc
          have N1 := Lib.hid (HAX.out j hjl)
          generalize bs.getD j 0 = b at q N1
          have hj2 : (j : Int) < (L : Int) := by omega
          obtain ⟨c0, c1⟩ := (HKP.out _ HW.out).1.get (b := b1) (t := t1) (p := p1) (by simp)
          clear hc hgL HAX HLC
          go_wp2_with (go_at_call 27; refine (N1.out _).mono ?_; rintro e' wa ⟨rfl, hba⟩; have HBa := Lib.hid (HW.out.trans (hba.mono HW.out.size)); clear N1 hba c0 c1)
          exact ⟨⟨j + 1, hjl, by go_num, HBa⟩, by simp [RowKit.intOf]; omega⟩
        · obtain rfl : j = L := by omega
          have hj2 : ¬ ((j : Int) < (j : Int)) := by omega
          have HKE := Lib.hid (HKP.out _ HW.out)
          clear HAX HKP HLC
          go_wp2_with fail
          go_meet
          case rel => exact ⟨Lib.hid HKE.out.1, Lib.hid HKE.out.2.1, Lib.hid HKE.out.2.2⟩
  case rest =>
    obtain ⟨KP1, LP1, LT1⟩ := hcut
    clear KP LB LP LT hbs HSN hbl
    obtain ⟨wo, rfl⟩ : ∃ wo : World, wo = wc := ⟨_, rfl⟩
    go_upto_if 383 with fail
    go_cut [] from 60 to 61 (fun wx => Hid (KpB w wx [(b3, t3, p3), (b2, t2, p2), (b1, t1, p1)]) ∧ Hid (IntsIn wx (.slice aP px.length cP) px) ∧ Hid (IntsIn wx (.slice aT tx.length cT) tx))
    case first =>
      clear HNN HFL FF FI HPX HTX
      cases iy
      · go_wp2_with fail
        go_meet
        case rel => exact ⟨KP1, LP1, LT1⟩
      · obtain ⟨hB, hix⟩ := FX.out rfl
        rw [hB] at HLV
        generalize lvX false t2 p2 r k = vs at *
        obtain ⟨db, hdb⟩ : ∃ db, decide (y ∈ vs) = db := ⟨_, rfl⟩
        rw [hdb] at hix
        subst hix
        obtain ⟨c0, c1⟩ := KP1.out.get (b := b2) (t := t2) (p := p2) (by simp)
        have HDB := Lib.hid hdb
        clear hB FX hdb
        go_wp2_with fail
        refine (HLV.out _).mono ?_
        rintro e w1 ⟨vl, rfl, hrow, hb⟩
        have K2 := Lib.hid (KP1.out.next hb)
        have P2 := Lib.hid (LP1.out.kept hb)
        have T2 := Lib.hid (LT1.out.kept hb)
        have HR : Hid (Calls Try.prog 29 #[vl, .int .i64 y] w1 fun e w' => e = .returned (.bool ix) ∧ w1 = w') := Lib.hid (by
          have h1 := rHas_any vs y vl w1 (by have := NV.out; omega) hrow.isIn
          rwa [HDB.out] at h1)
        obtain ⟨av, cv, rfl⟩ := hrow.form
        clear hrow hb KP1 LP1 LT1 c0 c1 HLV HDB NV
        go_wp2_with (go_at_call 29; refine HR.out.mono ?_; rintro e wb ⟨rfl, rfl⟩; clear HR)
        go_meet
        case rel => exact ⟨K2, P2, T2⟩
    case rest =>
      obtain ⟨KP2, LP2, LT2⟩ := hcut
      clear KP1 LP1 LT1 HLV FX NV
      obtain ⟨wz, rfl⟩ : ∃ wz : World, wz = wc := ⟨_, rfl⟩
      generalize hfo : flO t2 p2 r k y = fo at *
      have HFO := Lib.hid hfo
      clear hfo
      go_upto_if 400 with fail
      go_cut [] from 44 to 47 (fun wx => Hid (KpB w wx [(b3, t3, p3), (b2, t2, p2), (b1, t1, p1)]) ∧ Hid (IntsIn wx (.slice aT tx.length cT) tx))
      case first =>
        clear HFL FI HTX
        cases fo with
        | none =>
          clear FF HNN HPX HFO
          go_wp2_with fail
          go_meet
          case rel => exact ⟨KP2, LT2⟩
        | some j =>
          have hf := FF.out j rfl
          have hlen : px.length = j + 1 := by rw [← HPX.out]; exact hf.len
          have hp0 : px.getD 0 0 = y := by rw [← HPX.out]; exact hf.first
          have hpj : px.getD j 0 = r := by rw [← HPX.out]; exact hf.last
          have hst : ∀ i, i < j → aft t2 p2 (nx t2 p2) (px.getD i 0) 1 = (px.getD (i + 1) 0, true) ∧ px.getD i 0 ≠ r := fun i hi => by rw [← HPX.out]; exact hf.step i hi
          have hle : (j : Int) ≤ k := hf.le
          have hj20 : (j : Int) ≤ 20 := by have := hf.small; omega
          have HKP : Hid (∀ W, Below wz.heap.size wz W → KpB w W [(b3, t3, p3), (b2, t2, p2), (b1, t1, p1)] ∧ IntsIn W (.slice aT tx.length cT) tx) := Lib.hid fun W hb => ⟨KP2.out.next hb, LT2.out.kept hb⟩
          have hcell := cellsOfIn LP2.out
          rw [hlen] at hcell ⊢
          obtain ⟨gP, rfl, hgP, -⟩ := hcell 0 (by omega)
          have HC : Hid (∀ W, Below wz.heap.size wz W → ∀ m, m < j + 1 → W.cell? ⟨gP, m, none⟩ = some (.int .i64 (px.getD m 0))) := Lib.hid fun W hb m hm => by
            obtain ⟨g', he, _, hc⟩ := hcell m hm
            injection he with he1
            injection he1 with he2
            subst he2
            exact (hb.cell (p := ⟨gP, m, none⟩) hgP).trans hc
          have q0 := HC.out wz (Below.refl _ _) 0 (by omega)
          have qj := HC.out wz (Below.refl _ _) j (by omega)
          rw [hp0] at q0
          rw [hpj] at qj
          have N0 : Hid (∀ i, i < j → (∀ w, Calls Try.prog 11 #[.agg #[.int .i64 t2, .int .i64 p2], .int .i64 (px.getD i 0)] w fun e w' => e = .returned (.tuple #[.int .i64 (px.getD (i + 1) 0), .bool true]) ∧ Below w.heap.size w w') ∧ px.getD i 0 ≠ r) := Lib.hid fun i hi => ⟨fun w => by
            have h1 := HNN.out (px.getD i 0) w
            rwa [(hst i hi).1] at h1, (hst i hi).2⟩
          clear hf hlen hp0 hpj hst hcell FF HPX HFO HNN KP2 LP2 LT2
          simp only [Option.getD_some, Option.isSome_some]
          go_wp2_with fail
          go_loopw [62] (fun i wr => ∃ m : Nat, m ≤ j ∧ i = .int .i64 m ∧ Hid (Below wz.heap.size wz wr)) (fun i _ => j - (RowKit.intOf i).toNat)
          case atStart => exact ⟨0, Nat.zero_le _, rfl, Lib.hid (Below.refl _ _)⟩
          case round =>
            obtain ⟨m, hm, rfl, HW⟩ := hrel
            by_cases hmj : m < j
            · obtain ⟨N1, hne⟩ := N0.out m hmj
              have HN1 := Lib.hid N1
              have qm := HC.out _ HW.out m (by omega)
              have HQM : Hid (∀ W, Below wz.heap.size wz W → W.cell? ⟨gP, m, none⟩ = some (.int .i64 (px.getD m 0)) ∧ W.cell? ⟨gP, m + 1, none⟩ = some (.int .i64 (px.getD (m + 1) 0))) := Lib.hid fun W hb => ⟨HC.out W hb m (by omega), HC.out W hb (m + 1) (by omega)⟩
              generalize px.getD (m + 1) 0 = z1 at *
              generalize px.getD m 0 = z0 at *
              have hm2 : (m : Int) < (j : Int) := by omega
              obtain ⟨c0, c1⟩ := (HKP.out _ HW.out).1.get (b := b2) (t := t2) (p := p2) (by simp)
              clear N1 HC HKP N0 q0 qj
              go_wp2_with fail
              go_region_with (go_at_call 11; refine (HN1.out _).mono ?_; rintro e' wa ⟨rfl, hba⟩; obtain ⟨HBa⟩ : Nonempty (Hid (Below wz.heap.size wz wa)) := ⟨by first | exact Lib.hid (HW.out.trans (hba.mono HW.out.size)) | exact Lib.hid (HW.out.drew.trans (hba.mono HW.out.size))⟩; obtain ⟨qm, qn⟩ := HQM.out _ HBa.out; clear hba)
              all_goals
                clear HN1
                go_wp2_with fail
                exact ⟨⟨m + 1, hmj, by go_num, HBa⟩, by simp [RowKit.intOf]; omega⟩
            · obtain rfl : m = j := by omega
              have hm2 : ¬ ((m : Int) < (m : Int)) := by omega
              have HKE := Lib.hid (HKP.out _ HW.out)
              clear N0 HC HKP q0 qj
              go_wp2_with fail
              go_meet
              case rel => exact ⟨Lib.hid HKE.out.1, Lib.hid HKE.out.2⟩
      case rest =>
        obtain ⟨KP3, LT3⟩ := hcut
        clear KP2 LP2 LT2 HPX HFO FF HNN
        obtain ⟨wy, rfl⟩ : ∃ wy : World, wy = wc := ⟨_, rfl⟩
        generalize hib : itB t3 p3 r3 k3 l = ib at *
        clear hib
        go_upto_if 463 with fail
        go_cut [] from 52 to 55 (fun wx => Hid (KpB w wx [(b3, t3, p3), (b2, t2, p2), (b1, t1, p1)]))
        case first =>
          cases ib
          · clear FI HFL HTX
            go_wp2_with fail
            go_meet
            case rel => exact KP3
          · have hf := FI.out rfl
            obtain ⟨z1, z2⟩ := numB_iff.1 hf.num
            have l0 : 0 ≤ l := hf.l0
            have l1 : l ≤ 1000000000000 := hf.l1
            have htl : tx.length ≤ 50000 := by rw [← HTX.out]; exact hf.len
            have hris : tx.Pairwise (· < ·) := by rw [← HTX.out]; exact hf.rises
            have hroot : decide (r3 ∈ tx) = inR l r3 := by rw [← HTX.out]; exact hf.root
            have hmem : ∀ z ∈ tx, (flO t3 p3 r3 k3 z).isSome = true ∧ -l ≤ z ∧ z ≤ l := by rw [← HTX.out]; exact hf.mem
            have HKP : Hid (∀ W, Below wy.heap.size wy W → KpB w W [(b3, t3, p3), (b2, t2, p2), (b1, t1, p1)]) := Lib.hid fun W hb => KP3.out.next hb
            have HRI : Hid (∀ W, Below wy.heap.size wy W → Calls Try.prog 12 #[.slice aT tx.length cT] W fun e w' => e = .returned (.bool true) ∧ Below W.heap.size W w') := Lib.hid fun W hb => rRises_any tx _ W (by omega) hris (LT3.out.kept hb)
            have HRH : Hid (∀ W, Below wy.heap.size wy W → Calls Try.prog 29 #[.slice aT tx.length cT, .int .i64 r3] W fun e w' => e = .returned (.bool (inR l r3)) ∧ W = w') := Lib.hid fun W hb => by
              have h1 := rHas_any tx r3 _ W (by omega) (LT3.out.kept hb)
              rwa [hroot] at h1
            have HLC := Lib.hid (cellsOfIn LT3.out)
            have HFX : Hid (∀ j, j < tx.length → (∀ w, Calls Try.prog 20 #[.agg #[.int .i64 t3, .int .i64 p3], .int .i64 r3, .int .i64 k3, .int .i64 (tx.getD j 0)] w fun e w' => ∃ i : Int, e = .returned (.tuple #[.int .i64 i, .bool true]) ∧ Below w.heap.size w w') ∧ -l ≤ tx.getD j 0 ∧ tx.getD j 0 ≤ l) := Lib.hid fun j hj => by
              obtain ⟨h1, h2, h3⟩ := hmem _ (mem_getD hj)
              refine ⟨fun w => ?_, h2, h3⟩
              have h4 := HFL.out (tx.getD j 0) (wf_num (numB_iff.2 ⟨by omega, by omega⟩)) w
              rw [h1] at h4
              exact h4.mono fun e w' ⟨he, hb⟩ => ⟨_, he, hb⟩
            have hl2 : (tx.length : Int) ≤ 50000 := by omega
            clear hf hris hroot hmem FI HFL HTX KP3 LT3 htl
            go_upto_region 72 with fail
            go_cut [481] from 481 to 481 (fun s481 wx => s481 = .bool false ∧ Hid (Below wy.heap.size wy wx))
            case first =>
              clear HKP HLC HFX
              by_cases h1 : r3 ≤ l <;> by_cases h2 : -l ≤ r3
              all_goals
                have hin : inR l r3 = (decide (r3 ≤ l) && decide (-l ≤ r3)) := by unfold inR; simp [Bool.and_comm]
                first
                  | rw [decide_eq_true h1, decide_eq_true h2] at hin
                  | rw [decide_eq_true h1, decide_eq_false h2] at hin
                  | rw [decide_eq_false h1, decide_eq_true h2] at hin
                  | rw [decide_eq_false h1, decide_eq_false h2] at hin
                rw [hin] at HRH
                clear hin
                go_wp2_with (first
                  | (go_at_call 12; refine (HRI.out _ (Below.refl _ _)).mono ?_; rintro e wa ⟨rfl, hba⟩; have HBa := Lib.hid hba; clear HRI hba)
                  | (go_at_call 29; refine (HRH.out _ HBa.out).mono ?_; rintro e wb ⟨rfl, rfl⟩; clear HRH))
                all_goals
                  go_meet
                  case rel => exact ⟨by first | rfl | (simp; done) | (simp; omega), HBa⟩
            case rest =>
              obtain ⟨rfl, HQ⟩ := hcut
              clear HRI HRH
              generalize hL : tx.length = L at *
              clear hL
              go_wp2_with fail
              go_loopw [484] (fun i wr => ∃ j : Nat, j ≤ L ∧ i = .int .i64 j ∧ Hid (Below wy.heap.size wy wr)) (fun i _ => L - (RowKit.intOf i).toNat)
              case atStart => exact ⟨0, Nat.zero_le _, rfl, HQ⟩
              case round =>
                obtain ⟨j, hj, rfl, HW⟩ := hrel
                by_cases hjl : j < L
                · obtain ⟨gL, rfl, hgL, hc⟩ := HLC.out j hjl
                  have q := (HW.out.cell (p := ⟨gL, j, none⟩) hgL).trans hc
                  obtain ⟨N1, hz1, hz2⟩ := HFX.out j hjl
                  have HN1 := Lib.hid N1
                  generalize tx.getD j 0 = b at *
                  have hj2 : (j : Int) < (L : Int) := by omega
                  obtain ⟨c0, c1⟩ := (HKP.out _ HW.out).get (b := b3) (t := t3) (p := p3) (by simp)
                  clear hc hgL HFX HLC N1 HKP HQ
                  go_wp2_with (go_at_call 20; refine (HN1.out _).mono ?_; rintro e' wa ⟨i', rfl, hba⟩; have HBa := Lib.hid (HW.out.trans (hba.mono HW.out.size)); clear HN1 hba c0 c1)
                  exact ⟨⟨j + 1, hjl, by go_num, HBa⟩, by simp [RowKit.intOf]; omega⟩
                · obtain rfl : j = L := by omega
                  have hj2 : ¬ ((j : Int) < (j : Int)) := by omega
                  have HKE := Lib.hid (HKP.out _ HW.out)
                  clear HFX HKP HLC HQ
                  go_wp2_with fail
                  go_meet
                  case rel => exact HKE
        case rest =>
          clear FI HFL HTX KP3 LT3
          go_wp2_with fail
          go_ret
          exact ⟨rfl, hcut.out.2⟩
end Go.Proofs.Ytjcpdlamgjpmmaa
