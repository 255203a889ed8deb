/-
  THE WALK OF THE LAW 'StepsGo' ON BYTES: the path, then its end.
-/
import Derived.Test.YtebbafapcknllaaSbE
namespace Go.Proofs.Ytebbafapcknllaa
open Go.RowKit
set_option linter.unusedVariables false
noncomputable def sb_midCode : Code := ((Try.f3.body.bind (restFrom 20)).getD .skip)
set_option maxRecDepth 100000 in
set_option maxHeartbeats 16000000 in
theorem sb_mid (vm : Value) (b1 : Nat) (t p n k A : Int) (b : Bool) (xs : List Int) (ob : Bool) (sg : ByteArray) (od : Nat) (P1 P2 L1 L2 s1 : Int) (se : Bool) (a3 : Option Addr) (c3 : Nat) (w wq : World) (M : Hid (Two9 wq b1 t p)) (B : Hid (Below w.heap.size w wq)) (HM : Hid (BytesArg w vm)) (R : Hid (IntsIn wq (.slice a3 xs.length c3) xs)) (HF : Hid (SgF t p n k A b xs ob sg od P1 P2 L1 L2 s1 se)) (s0 s2 s3 s4 s9 s10 s11 s14 s15 s17 s18 s19 s21 s22 s23 s26 s27 s28 s29 s32 s33 s34 s35 s38 s39 s40 s41 s42 s43 s44 s45 s46 s47 s48 s49 s50 s51 s52 s53 s54 s55 s56 s57 s58 s59 s60 s61 s62 s63 s64 s65 s66 s67 s68 s69 s70 s71 s72 s73 s74 s75 s76 s77 s78 s79 s80 s81 s82 s83 s84 s85 s86 s87 s88 s89 s90 s91 s92 s93 s94 s95 s96 s97 s98 s99 s100 s101 s102 s103 s104 s105 s106 s107 s108 s109 s110 s111 s112 s113 s114 s115 s116 s117 s118 s119 s120 s121 s122 s123 s124 s125 s126 s127 s128 s129 s130 s131 s132 s133 s134 s135 s136 s137 s138 s139 s140 s141 s142 s143 s144 s145 s146 s147 s148 s149 s150 s151 s152 s153 s154 s155 s156 s157 s158 s159 s160 s161 s162 s163 s164 s165 s166 s167 s168 s169 s170 s171 s172 s173 s174 s175 s176 s177 s178 s179 s180 s181 s182 s183 s184 s185 s186 s187 s188 s189 s190 s191 s192 s193 s194 s195 s196 s197 s198 s199 s200 s201 s202 s203 s204 s205 s206 s207 s208 s209 s210 s211 s212 s213 s214 s215 s216 s217 s218 s219 s220 s221 s222 s223 s224 s225 s226 s227 s228 s229 s230 s231 s232 s233 s234 s235 s236 s237 s238 s239 s240 s241 s242 s243 s244 s245 s246 s247 s248 s249 s250 s251 s252 s253 s254 s255 s256 s257 s258 s259 s260 s261 s262 s263 s264 s265 s266 s267 s268 s269 s270 s271 s272 s273 s274 s275 s276 s277 s278 s279 s280 s281 s282 s283 s284 s285 s286 s287 s288 s289 s290 s291 s292 s293 s294 s295 s296 s297 s298 s299 s300 s301 s302 s303 s304 s305 s306 s307 s308 s309 s310 s311 s312 s313 s314 s315 s316 s317 s318 s319 s320 s321 s322 s323 s324 s325 s326 s327 s328 s329 s330 s331 s332 s333 s334 s335 s336 s337 s338 s339 s340 s341 s342 s343 s344 s345 s346 s347 s348 s349 s350 s351 s352 s353 s354 s355 s356 s357 s358 s359 s360 s361 s362 s363 s364 s365 s366 s367 s368 s369 s370 s371 s372 s373 s374 s375 s376 s377 s378 s379 s380 s381 s382 s383 s384 s385 s386 s387 s388 s389 s390 s391 s392 s393 s394 s395 s396 s397 s398 s399 s400 s401 s402 s403 s404 s405 s406 s407 s408 s409 s410 s411 s412 s413 s414 s415 s416 s417 s418 s419 s420 s421 s422 s423 s424 s425 s426 s427 s428 s429 s430 s431 s432 s433 s434 s435 s436 s437 s438 s439 s440 s441 s442 s443 s444 s445 s446 s447 s448 s449 s450 s451 s452 s453 s454 s455 s456 s457 s458 s459 s460 s461 s462 s463 s464 s465 s466 s467 s468 s469 s470 s471 s472 s473 s474 s475 s476 s477 s478 s479 s480 s481 s482 s483 s484 s485 s486 s487 s488 s489 s490 s491 s492 s493 s494 s495 s496 s497 s498 s499 s500 s501 s502 s503 s504 s505 s506 s507 s508 s509 s510 s511 s512 s513 s514 s515 s516 s517 s518 s519 s520 s521 s522 s523 s524 s525 s526 s527 s528 s529 s530 s531 s532 s533 s534 s535 s536 s537 s538 s539 s540 s541 s542 s543 s544 s545 s546 s547 s548 s549 s550 s551 s552 s553 s554 s555 s556 s557 s558 s559 s560 s561 s562 s563 s564 s565 s566 s567 s568 s569 s570 s571 s572 s573 s574 s575 s576 s577 s578 s579 s580 s581 s582 s583 s584 s585 s586 s587 s588 s589 s590 s591 s592 s593 s594 s595 s596 s597 s598 s599 s600 s601 s602 s603 s604 s605 s606 s607 s608 s609 s610 s611 s612 s613 s614 s615 : Value) :
    Code.wp Try.prog sb_midCode (bodyPost Try.prog Try.f3 fun e w' => e = .returned (.bool true) ∧ Below w.heap.size w w') ⟨#[s0, vm, s2, s3, s4, .pointer (some ⟨b1, 0, none⟩), .int .i64 n, .int .i64 k, .int .i64 A, s9, s10, s11, .slice a3 xs.length c3, .bool ob, s14, s15, .string sg, s17, s18, s19, .int .i64 (od : Int), s21, s22, s23, .int .i64 P1, .int .i64 P2, s26, s27, s28, s29, .int .i64 L1, .int .i64 L2, s32, s33, s34, s35, .int .i64 s1, .bool se, s38, s39, s40, s41, s42, s43, s44, s45, s46, s47, s48, s49, s50, s51, s52, s53, s54, s55, s56, s57, s58, s59, s60, s61, s62, s63, s64, s65, s66, s67, s68, s69, s70, s71, s72, s73, s74, s75, s76, s77, s78, s79, s80, s81, s82, s83, s84, s85, s86, s87, s88, s89, s90, s91, s92, s93, s94, s95, s96, s97, s98, s99, s100, s101, s102, s103, s104, s105, s106, s107, s108, s109, s110, s111, s112, s113, s114, s115, s116, s117, s118, s119, s120, s121, s122, s123, s124, s125, s126, s127, s128, s129, s130, s131, s132, s133, s134, s135, s136, s137, s138, s139, s140, s141, s142, s143, s144, s145, s146, s147, s148, s149, s150, s151, s152, s153, s154, s155, s156, s157, s158, s159, s160, s161, s162, s163, s164, s165, s166, s167, s168, s169, s170, s171, s172, s173, s174, s175, s176, s177, s178, s179, s180, s181, s182, s183, s184, s185, s186, s187, s188, s189, s190, s191, s192, s193, s194, s195, s196, s197, s198, s199, s200, s201, s202, s203, s204, s205, s206, s207, s208, s209, s210, s211, s212, s213, s214, s215, s216, s217, s218, s219, s220, s221, s222, s223, s224, s225, s226, s227, s228, s229, s230, s231, s232, s233, s234, s235, s236, s237, s238, s239, s240, s241, s242, s243, s244, s245, s246, s247, s248, s249, s250, s251, s252, s253, s254, s255, s256, s257, s258, s259, s260, s261, s262, s263, s264, s265, s266, s267, s268, s269, s270, s271, s272, s273, s274, s275, s276, s277, s278, s279, s280, s281, s282, s283, s284, s285, s286, s287, s288, s289, s290, s291, s292, s293, s294, s295, s296, s297, s298, s299, s300, s301, s302, s303, s304, s305, s306, s307, s308, s309, s310, s311, s312, s313, s314, s315, s316, s317, s318, s319, s320, s321, s322, s323, s324, s325, s326, s327, s328, s329, s330, s331, s332, s333, s334, s335, s336, s337, s338, s339, s340, s341, s342, s343, s344, s345, s346, s347, s348, s349, s350, s351, s352, s353, s354, s355, s356, s357, s358, s359, s360, s361, s362, s363, s364, s365, s366, s367, s368, s369, s370, s371, s372, s373, s374, s375, s376, s377, s378, s379, s380, s381, s382, s383, s384, s385, s386, s387, s388, s389, s390, s391, s392, s393, s394, s395, s396, s397, s398, s399, s400, s401, s402, s403, s404, s405, s406, s407, s408, s409, s410, s411, s412, s413, s414, s415, s416, s417, s418, s419, s420, s421, s422, s423, s424, s425, s426, s427, s428, s429, s430, s431, s432, s433, s434, s435, s436, s437, s438, s439, s440, s441, s442, s443, s444, s445, s446, s447, s448, s449, s450, s451, s452, s453, s454, s455, s456, s457, s458, s459, s460, s461, s462, s463, s464, s465, s466, s467, s468, s469, s470, s471, s472, s473, s474, s475, s476, s477, s478, s479, s480, s481, s482, s483, s484, s485, s486, s487, s488, s489, s490, s491, s492, s493, s494, s495, s496, s497, s498, s499, s500, s501, s502, s503, s504, s505, s506, s507, s508, s509, s510, s511, s512, s513, s514, s515, s516, s517, s518, s519, s520, s521, s522, s523, s524, s525, s526, s527, s528, s529, s530, s531, s532, s533, s534, s535, s536, s537, s538, s539, s540, s541, s542, s543, s544, s545, s546, s547, s548, s549, s550, s551, s552, s553, s554, s555, s556, s557, s558, s559, s560, s561, s562, s563, s564, s565, s566, s567, s568, s569, s570, s571, s572, s573, s574, s575, s576, s577, s578, s579, s580, s581, s582, s583, s584, s585, s586, s587, s588, s589, s590, s591, s592, s593, s594, s595, s596, s597, s598, s599, s600, s601, s602, s603, s604, s605, s606, s607, s608, s609, s610, s611, s612, s613, s614, s615], []⟩ wq := by
  conv => arg 2; whnf
  have HK := Lib.hid (fun h => sg_facts HF.out h)
  have HR := R
  clear HF
  obtain ⟨L, hL⟩ : ∃ L, xs.length = L := ⟨_, rfl⟩
  have HLL := Lib.hid hL
  rw [hL]
  clear hL
  go_upto_if 312 with fail
  go_cut [40, 41, 42, 43, 44, 45, 46, 47, 48, 49, 50] from 313 to 497 (fun s49 s50 s51 s52 s53 s54 s55 s56 s57 s58 s59 wx => Hid (Below wq.heap.size wq wx))
  case first =>
    cases ob
    · go_wp2_with fail
      go_meet
      case rel => exact Lib.hid (Below.refl _ _)
    · as_aux_lemma =>
        obtain ⟨K, a, U, V, hk⟩ := HK.out rfl
        have HQ := Lib.hid hk
        obtain rfl : k = K := hk.hk
        have hLK : L = K + 1 := by rw [← HLL.out]; exact hk.hlen
        subst hLK
        obtain rfl : P2 = U := hk.pU
        obtain rfl : L2 = V := hk.lV
        have hK2 : K ≤ 200 := hk.hK
        have HC : ∃ g, a3 = some ⟨g, 0, none⟩ ∧ g < wq.heap.size ∧ ∀ i, i ≤ K → wq.cell? ⟨g, i, none⟩ = some (.int .i64 (a i)) := by
          obtain ⟨a4, c4, e4, h4⟩ := HR.out
          injection e4 with e5 e6 e7
          subst e5
          obtain ⟨g, h5, h6, h7⟩ := h4 (by intro e; rw [e] at hk; have := hk.hlen; simp at this)
          exact ⟨g, h5, h6, fun i hi => by rw [(h7 i (by rw [hk.hlen]; omega)).1, hk.hx i hi]⟩
        obtain ⟨g, rfl, hg, hc⟩ := HC
        have HC := Lib.hid hc
        have q0 : wq.cell? ⟨g, 0, none⟩ = some (.int .i64 n) := by rw [hc 0 (Nat.zero_le _), hk.a0]
        have qK : wq.cell? ⟨g, K, none⟩ = some (.int .i64 A) := by rw [hc K (Nat.le_refl _), hk.aK]
        have qU : wq.cell? ⟨g, U, none⟩ = some (.int .i64 P1) := by rw [hc U hk.uK, hk.aU]
        have qV : wq.cell? ⟨g, V, none⟩ = some (.int .i64 L1) := by rw [hc V hk.vK, hk.aV]
        have u1 : U < K + 1 := Nat.lt_succ_of_le hk.uK
        have v1 : V < K + 1 := Nat.lt_succ_of_le hk.vK
        have u2 : (U : Int) < (K : Int) + 1 := by omega
        have v2 : (V : Int) < (K : Int) + 1 := by omega
        have sz : sg.size = K := hk.sz
        have k1 : IntKind.i64.wrap ((K : Int) + 1) = (K : Int) + 1 := by rw [IntKind.wrap_i64]; omega
        clear HK hk hc
        go_wp2_with fail
        go_loopw [40, 357] (fun c i wr => ∃ m : Nat, m ≤ K ∧ i = .int .i64 (m : Int) ∧ c = .int .i64 (oda a m : Int) ∧ Below wq.heap.size wq wr) (fun _ i _ => K + 1 - (RowKit.intOf i).toNat)
        case atStart => exact ⟨0, Nat.zero_le _, rfl, rfl, Below.refl _ _⟩
        case round =>
          clear q0 qK qU qV
          obtain ⟨m, hm, rfl, rfl, hb⟩ := hrel
          have HB := Lib.hid hb
          have hcm : wr.cell? ⟨g, m, none⟩ = some (.int .i64 (a m)) := (hb.cell (p := ⟨g, m, none⟩) hg).trans (HC.out m hm)
          have hm1 : (m : Int) < (K : Int) + 1 := by omega
          have hm2 : m < K + 1 := by omega
          clear hb
          go_upto_region 27 with fail
          go_cut [389] from 362 to 389 (fun s wx => s = .bool false ∧ wr = wx)
          case first =>
            have b1 : ¬ P1 < a m := by have := HQ.out.pm m hm; omega
            have b2 : ¬ a m < L1 := by have := HQ.out.lm m hm; omega
            have e3 : a m = P1 → ¬ (m : Int) < (U : Int) := fun e h => HQ.out.pf m (by omega) e
            have e4 : a m = L1 → ¬ (m : Int) < (V : Int) := fun e h => HQ.out.lf m (by omega) e
            clear HQ HC M B HR HLL HB hm hm1 hm2 hcm
            cases h1 : (a m == P1)
            · cases h2 : (a m == L1)
              · clear e3 e4
                go_wp2_with fail
                go_meet
                case rel => exact ⟨rfl, rfl⟩
              · have e6 := e4 (eq_of_beq h2)
                clear e3 e4
                go_wp2_with fail
                go_meet
                case rel => exact ⟨rfl, rfl⟩
            · have e5 := e3 (eq_of_beq h1)
              cases h2 : (a m == L1)
              · clear e3 e4
                go_wp2_with fail
                go_meet
                case rel => exact ⟨rfl, rfl⟩
              · have e6 := e4 (eq_of_beq h2)
                clear e3 e4
                go_wp2_with fail
                go_meet
                case rel => exact ⟨rfl, rfl⟩
          case rest =>
            obtain ⟨rfl, rfl⟩ := hcut
            by_cases hlt : m < K
            · as_aux_lemma =>
              have hne : ¬ (m : Int) = (K : Int) := by omega
              have MW := Lib.hid (M.out.kept HB.out)
              have HN := Lib.hid (fun W => HQ.out.next m hlt W)
              have c0 := MW.out.c0
              have c1 := MW.out.c1
              clear hcm
              go_wp2_with fail
              refine (HN.out _).mono ?_
              rintro e w2 ⟨rfl, hb2⟩
              have HB2 := Lib.hid (HB.out.trans (hb2.mono HB.out.size))
              have hcn : w2.cell? ⟨g, m + 1, none⟩ = some (.int .i64 (a (m + 1))) := (HB2.out.cell (p := ⟨g, m + 1, none⟩) hg).trans (HC.out (m + 1) hlt)
              have MW2 := Lib.hid (M.out.kept HB2.out)
              replace c0 := MW2.out.c0
              replace c1 := MW2.out.c1
              have hsg := HQ.out.sgn m hlt
              have hmz : m < sg.size := by have := HQ.out.sz; omega
              have bm := HQ.out.bd m hm
              have bn := HQ.out.bd (m + 1) hlt
              have w1 : IntKind.i64.wrap ((m : Int) + 1) = (m : Int) + 1 := by rw [IntKind.wrap_i64]; omega
              cases ho : oddB (a m)
              · have hx2 : ((a m).tmod 2 == 0) = true := by rw [even_tmod, ho]; rfl
                have hev := HQ.out.ev m hlt ho
                rw [ho] at hsg
                have hoo := Lib.hid (oda_even ho)
                have w6 : IntKind.i64.wrap (2 * a (m + 1)) = a m := by rw [hev, IntKind.wrap_i64]; omega
                rw [if_neg (by decide)] at hsg
                clear HQ HC HR HLL HB hm hm2 HN MW M B ho hb2 hev
                go_wp2_with fail
                exact ⟨⟨m + 1, hlt, by go_num, by rw [hoo.out], HB2.out⟩, by simp [RowKit.intOf]; omega⟩
              · have hx2 : ((a m).tmod 2 == 0) = false := by rw [even_tmod, ho]; rfl
                have hx3 : ((a m).tmod 2 != 0) = true := by rw [bne, hx2]; rfl
                have hod := HQ.out.od m hlt ho
                obtain ⟨t1, t2, p1, p2⟩ := HQ.out.tp
                have hcl := oda_le a m
                have tb := mul_bound t1 t2 bm.1 bm.2
                have w3 : IntKind.i64.wrap (t * a m) = t * a m := by rw [IntKind.wrap_i64]; omega
                have w4 : IntKind.i64.wrap (t * a m + p) = a (m + 1) := by rw [← hod, IntKind.wrap_i64]; omega
                have w5 : IntKind.i64.wrap ((oda a m : Int) + 1) = (oda a m : Int) + 1 := by rw [IntKind.wrap_i64]; omega
                have hoo := Lib.hid (oda_odd ho)
                rw [ho, if_pos rfl] at hsg
                clear HQ HC HR HLL HB hm hm2 HN MW M B ho hb2 hod tb
                go_wp2_with fail
                exact ⟨⟨m + 1, hlt, by go_num, by rw [hoo.out]; go_num, HB2.out⟩, by simp [RowKit.intOf]; omega⟩
            · obtain rfl : m = K := by omega
              have HR2 : Hid (IntsIn wr (.slice (some ⟨g, 0, none⟩) (m + 1) c3) xs) := Lib.hid (by have := HR.out.kept HB.out; rw [HLL.out] at this; exact this)
              obtain rfl : od = oda a m := HQ.out.cnt
              have HV : Hid (se = true → ∀ W, Below wr.heap.size wr W → Calls Try.prog 24 #[.slice (some ⟨g, 0, none⟩) (m + 1) c3] W fun e w' => e = .returned (.int .i64 s1) ∧ W = w') := Lib.hid (fun h W hb => by
                have := vSum_any xs _ W (by rw [HLL.out]; omega) HQ.out.xb (HR2.out.kept hb)
                rw [HQ.out.sum h] at this
                exact this)
              have HS := Lib.hid HQ.out.sto
              have HNG := Lib.hid HQ.out.neg
              have HBK := Lib.hid HQ.out.back
              have nb : -1000000000000 ≤ n ∧ n ≤ 1000000000000 := by have := HQ.out.bd 0 (Nat.zero_le _); rw [HQ.out.a0] at this; exact this
              have ab : -1000000000000 ≤ A ∧ A ≤ 1000000000000 := by have := HQ.out.bd m (Nat.le_refl _); rw [HQ.out.aK] at this; exact this
              have n1 : IntKind.i64.wrap (-n) = -n := by rw [IntKind.wrap_i64]; omega
              have n2 : IntKind.i64.wrap (-A) = -A := by rw [IntKind.wrap_i64]; omega
              clear HQ HR HLL
              go_upto_region 40 with fail
              go_cut [450] from 439 to 450 (fun s wx => s = .bool false ∧ wr = wx)
              case first =>
                clear M B HC HS HNG HBK
                cases se
                · clear HV
                  go_wp2_with fail
                  go_meet
                  case rel => exact ⟨rfl, rfl⟩
                · have HV1 := Lib.hid (HV.out rfl)
                  clear HV
                  go_wp2_with fail
                  refine (HV1.out _ (Below.refl _ _)).mono ?_
                  rintro e w3 ⟨rfl, rfl⟩
                  go_wp2_with fail
                  go_meet
                  case rel => exact ⟨rfl, rfl⟩
              case rest =>
                obtain ⟨rfl, rfl⟩ := hcut
                have MW := Lib.hid (M.out.kept HB.out)
                have c0 := MW.out.c0
                have c1 := MW.out.c1
                obtain ⟨J, hJ, hJA, hS⟩ := HS.out
                have HS2 := Lib.hid hS
                have hJ1 : J < m + 1 := by omega
                have hJ2 : (J : Int) < (m : Int) + 1 := by omega
                have hJ3 : ¬ (m : Int) < (J : Int) := by omega
                have hJv : wq.cell? ⟨g, J, none⟩ = some (.int .i64 A) := by rw [HC.out J hJ, hJA]
                clear hS HS hcm hJA HV HR2
                go_wp2_with fail
                refine (HS2.out _).mono ?_
                rintro e w3 ⟨rfl, hb3⟩
                have HB3 := Lib.hid (HB.out.trans (hb3.mono HB.out.size))
                have q1 : w3.cell? ⟨g, J, none⟩ = some (.int .i64 A) := (HB3.out.cell (p := ⟨g, J, none⟩) hg).trans hJv
                have MW3 := Lib.hid (M.out.kept HB3.out)
                replace c0 := MW3.out.c0
                replace c1 := MW3.out.c1
                clear hb3 MW hJv
                go_wp2_with fail
                refine (HNG.out _).mono ?_
                rintro e w4 ⟨rfl, hb4⟩
                have HB4 := Lib.hid (HB3.out.trans (hb4.mono HB3.out.size))
                clear hb4 MW3 c0 c1 q1
                go_wp2_with fail
                refine (HBK.out _).mono ?_
                rintro e w5 ⟨rfl, hb5⟩
                have HB5 := Lib.hid ((HB4.out.alloc HB4.out.size _).trans (hb5.mono (by have := HB4.out.size; simp; omega)))
                clear hb5
                go_wp2_with fail
                go_meet
                case rel => exact HB5
  case rest =>
    have hb := hcut.out
    clear hcut
    refine ‹∀ (a : Act) (w : World), Code.wp _ _ _ a w → _› _ _ ?_
    exact sb_end vm w _ (Lib.hid (B.out.trans (hb.mono B.out.size))) HM _ _ _ _ _ _ _ _ _ _ _ _ _ _ _ _ _ _ _ _ _ _ _ _ _ _ _ _ _ _ _ _ _ _ _ _ _ _ _ _ _ _ _ _ _ _ _ _ _ _ _ _ _ _ _ _ _ _ _ _ _ _ _ _ _ _ _ _ _ _ _ _ _ _ _ _ _ _ _ _ _ _ _ _ _ _ _ _ _ _ _ _ _ _ _ _ _ _ _ _ _ _ _ _ _ _ _ _ _ _ _ _ _ _ _ _ _ _ _ _ _ _ _ _ _ _ _ _ _ _ _ _ _ _ _ _ _ _ _ _ _ _ _ _ _ _ _ _ _ _ _ _ _ _ _ _ _ _ _ _ _ _ _ _ _ _ _ _ _ _ _ _ _ _ _ _ _ _ _ _ _ _ _ _ _ _ _ _ _ _ _ _ _ _ _ _ _ _ _ _ _ _ _ _ _ _ _ _ _ _ _ _ _ _ _ _ _ _ _ _ _ _ _ _ _ _ _ _ _ _ _ _ _ _ _ _ _ _ _ _ _ _ _ _ _ _ _ _ _ _ _ _ _ _ _ _ _ _ _ _ _ _ _ _ _ _ _ _ _ _ _ _ _ _ _ _ _ _ _ _ _ _ _ _ _ _ _ _ _ _ _ _ _ _ _ _ _ _ _ _ _ _ _ _ _ _ _ _ _ _ _ _ _ _ _ _ _ _ _ _ _ _ _ _ _ _ _ _ _ _ _ _ _ _ _ _ _ _ _ _ _ _ _ _ _ _ _ _ _ _ _ _ _ _ _ _ _ _ _ _ _ _ _ _ _ _ _ _ _ _ _ _ _ _ _ _ _ _ _ _ _ _ _ _ _ _ _ _ _ _ _ _ _ _ _ _ _ _ _ _ _ _ _ _ _ _ _ _ _ _ _ _ _ _ _ _ _ _ _ _ _ _ _ _ _ _ _ _ _ _ _ _ _ _ _ _ _ _ _ _ _ _ _ _ _ _ _ _ _ _ _ _ _ _ _ _ _ _ _ _ _ _ _ _ _ _ _ _ _ _ _ _ _ _ _ _ _ _ _ _ _ _ _ _ _ _ _ _ _ _ _ _ _ _ _ _ _ _ _ _ _ _ _ _ _ _ _ _ _ _ _ _ _ _ _ _ _ _ _ _ _ _ _ _ _ _ _ _ _ _ _ _ _ _ _ _ _ _ _ _ _ _ _ _ _ _ _ _ _ _ _ _ _ _ _ _ _ _ _ _ _ _ _ _ _ _ _ _ _ _ _ _ _ _ _ _ _ _ _ _ _ _ _ _ _ _ _ _ _ _ _ _ _ _ _ _ _ _ _ _ _ _ _ _ _ _ _ _ _ _ _ _ _ _ _
end Go.Proofs.Ytebbafapcknllaa
