/-
  THE WALK OF THE LAW 'WordsAroundOfAll': what a word does and its number, then the rest.
-/
import Derived.Test.YtnhpoefhcngoaaaDoorWaC
namespace Go.Proofs.YtnhpoefhcngoaaaDoor
open Go.RowKit
set_option linter.unusedVariables false
noncomputable def wablockCode : Code := ((Tryd.f3.body.bind (restFrom 11)).getD .skip)
set_option maxRecDepth 100000 in
set_option maxHeartbeats 16000000 in
theorem wa_block (t p : Int) (s : ByteArray) (pp q d num den : Int) (ok is : Bool) (Bm : Nat) (tv pv len : Int) (T : ByteArray) (k z o : Int) (Bv : Nat) (w wq : World) (MM : Hid (Two9 wq Bm t p)) (MV : Hid (Two9 wq Bv tv pv)) (B : Hid (Below w.heap.size w wq)) (HT : Hid (TabP w)) (HF : Hid (ok = true → WaK t p s pp q d num den is s.size (cnt s.data.toList))) (s0 s2 s9 s11 s12 s13 s14 s15 s16 s21 s22 s23 s24 s27 s28 s29 s30 s32 s33 s34 s35 s36 s37 s38 s39 s40 s41 s42 s43 s44 s45 s46 s47 s48 s49 s50 s51 s52 s53 s54 s55 s56 s57 s58 s59 s60 s61 s62 s63 s64 s65 s66 s67 s68 s69 s70 s71 s72 s73 s74 s75 s76 s77 s78 s79 s80 s81 s82 s83 s84 s85 s86 s87 s88 s89 s90 s91 s92 s93 s94 s95 s96 s97 s98 s99 s100 s101 s102 s103 s104 s105 s106 s107 s108 s109 s110 s111 s112 s113 s114 s115 s116 s117 s118 s119 s120 s121 s122 s123 s124 s125 s126 s127 s128 s129 s130 s131 s132 s133 s134 s135 s136 s137 s138 s139 s140 s141 s142 s143 s144 s145 s146 s147 s148 s149 s150 s151 s152 s153 s154 s155 s156 s157 s158 s159 s160 s161 s162 s163 s164 s165 s166 s167 s168 s169 s170 s171 s172 s173 s174 s175 s176 s177 s178 s179 s180 s181 s182 s183 s184 s185 s186 s187 s188 s189 s190 s191 s192 s193 s194 s195 s196 s197 s198 s199 s200 s201 s202 s203 s204 s205 s206 s207 s208 s209 s210 s211 s212 s213 s214 s215 s216 s217 s218 s219 s220 s221 s222 s223 s224 s225 s226 s227 s228 s229 s230 s231 s232 s233 s234 s235 s236 s237 s238 s239 s240 s241 s242 s243 s244 s245 s246 s247 s248 s249 s250 s251 s252 s253 s254 s255 s256 s257 s258 s259 s260 s261 s262 s263 s264 s265 s266 s267 s268 s269 s270 s271 s272 s273 s274 s275 s276 s277 s278 s279 s280 s281 s282 s283 s284 s285 s286 s287 s288 s289 s290 s291 s292 s293 s294 s295 s296 s297 s298 s299 s300 s301 s302 s303 s304 s305 s306 s307 s308 s309 s310 s311 s312 s313 s314 s315 s316 s317 s318 s319 s320 s321 s322 s323 s324 s325 s326 s327 s328 s329 s330 s331 s332 s333 s334 s335 s336 s337 s338 s339 s340 s341 s342 s343 s344 s345 s346 s347 s348 s349 s350 s351 s352 s353 s354 s355 s356 s357 s358 s359 s360 s361 s362 s363 s364 s365 s366 s367 s368 s369 s370 s371 s372 s373 s374 s375 s376 s377 s378 s379 s380 s381 s382 s383 s384 s385 s386 s387 s388 s389 s390 s391 s392 s393 s394 s395 s396 s397 s398 s399 s400 s401 s402 s403 s404 s405 s406 s407 s408 s409 s410 s411 s412 s413 s414 s415 s416 s417 s418 s419 s420 s421 s422 s423 s424 s425 s426 s427 s428 s429 s430 s431 s432 s433 s434 s435 s436 s437 s438 s439 s440 s441 s442 s443 s444 s445 s446 s447 s448 s449 s450 s451 s452 s453 s454 s455 s456 s457 s458 s459 s460 s461 s462 s463 s464 s465 s466 s467 s468 s469 s470 s471 s472 s473 s474 s475 s476 s477 s478 s479 s480 s481 s482 s483 s484 s485 s486 s487 s488 s489 s490 s491 s492 s493 s494 s495 s496 s497 s498 s499 s500 s501 s502 s503 s504 s505 s506 s507 s508 s509 s510 s511 s512 s513 s514 s515 s516 s517 s518 s519 s520 s521 s522 s523 s524 s525 s526 s527 s528 s529 s530 s531 s532 s533 s534 s535 s536 s537 s538 s539 s540 s541 s542 s543 s544 s545 s546 s547 s548 s549 s550 s551 s552 s553 s554 s555 s556 s557 s558 s559 s560 s561 s562 s563 s564 s565 s566 s567 s568 s569 s570 s571 s572 s573 : Value) :
    Code.wp Tryd.prog wablockCode (bodyPost Tryd.prog Tryd.f3 fun e w' => e = .returned (.bool true) ∧ Below w.heap.size w w') ⟨#[s0, .string s, s2, .int .i64 len, .string T, .int .i64 k, .int .i64 z, .int .i64 o, .pointer (some ⟨Bm, 0, none⟩), s9, .pointer (some ⟨Bv, 0, none⟩), s11, s12, s13, s14, s15, s16, .int .i64 pp, .int .i64 q, .int .i64 d, .bool ok, s21, s22, s23, s24, .int .i64 num, .int .i64 den, s27, s28, s29, s30, .bool is, s32, s33, s34, s35, s36, s37, s38, s39, s40, s41, s42, s43, s44, s45, s46, s47, s48, s49, s50, s51, s52, s53, s54, s55, s56, s57, s58, s59, s60, s61, s62, s63, s64, s65, s66, s67, s68, s69, s70, s71, s72, s73, s74, s75, s76, s77, s78, s79, s80, s81, s82, s83, s84, s85, s86, s87, s88, s89, s90, s91, s92, s93, s94, s95, s96, s97, s98, s99, s100, s101, s102, s103, s104, s105, s106, s107, s108, s109, s110, s111, s112, s113, s114, s115, s116, s117, s118, s119, s120, s121, s122, s123, s124, s125, s126, s127, s128, s129, s130, s131, s132, s133, s134, s135, s136, s137, s138, s139, s140, s141, s142, s143, s144, s145, s146, s147, s148, s149, s150, s151, s152, s153, s154, s155, s156, s157, s158, s159, s160, s161, s162, s163, s164, s165, s166, s167, s168, s169, s170, s171, s172, s173, s174, s175, s176, s177, s178, s179, s180, s181, s182, s183, s184, s185, s186, s187, s188, s189, s190, s191, s192, s193, s194, s195, s196, s197, s198, s199, s200, s201, s202, s203, s204, s205, s206, s207, s208, s209, s210, s211, s212, s213, s214, s215, s216, s217, s218, s219, s220, s221, s222, s223, s224, s225, s226, s227, s228, s229, s230, s231, s232, s233, s234, s235, s236, s237, s238, s239, s240, s241, s242, s243, s244, s245, s246, s247, s248, s249, s250, s251, s252, s253, s254, s255, s256, s257, s258, s259, s260, s261, s262, s263, s264, s265, s266, s267, s268, s269, s270, s271, s272, s273, s274, s275, s276, s277, s278, s279, s280, s281, s282, s283, s284, s285, s286, s287, s288, s289, s290, s291, s292, s293, s294, s295, s296, s297, s298, s299, s300, s301, s302, s303, s304, s305, s306, s307, s308, s309, s310, s311, s312, s313, s314, s315, s316, s317, s318, s319, s320, s321, s322, s323, s324, s325, s326, s327, s328, s329, s330, s331, s332, s333, s334, s335, s336, s337, s338, s339, s340, s341, s342, s343, s344, s345, s346, s347, s348, s349, s350, s351, s352, s353, s354, s355, s356, s357, s358, s359, s360, s361, s362, s363, s364, s365, s366, s367, s368, s369, s370, s371, s372, s373, s374, s375, s376, s377, s378, s379, s380, s381, s382, s383, s384, s385, s386, s387, s388, s389, s390, s391, s392, s393, s394, s395, s396, s397, s398, s399, s400, s401, s402, s403, s404, s405, s406, s407, s408, s409, s410, s411, s412, s413, s414, s415, s416, s417, s418, s419, s420, s421, s422, s423, s424, s425, s426, s427, s428, s429, s430, s431, s432, s433, s434, s435, s436, s437, s438, s439, s440, s441, s442, s443, s444, s445, s446, s447, s448, s449, s450, s451, s452, s453, s454, s455, s456, s457, s458, s459, s460, s461, s462, s463, s464, s465, s466, s467, s468, s469, s470, s471, s472, s473, s474, s475, s476, s477, s478, s479, s480, s481, s482, s483, s484, s485, s486, s487, s488, s489, s490, s491, s492, s493, s494, s495, s496, s497, s498, s499, s500, s501, s502, s503, s504, s505, s506, s507, s508, s509, s510, s511, s512, s513, s514, s515, s516, s517, s518, s519, s520, s521, s522, s523, s524, s525, s526, s527, s528, s529, s530, s531, s532, s533, s534, s535, s536, s537, s538, s539, s540, s541, s542, s543, s544, s545, s546, s547, s548, s549, s550, s551, s552, s553, s554, s555, s556, s557, s558, s559, s560, s561, s562, s563, s564, s565, s566, s567, s568, s569, s570, s571, s572, s573], []⟩ wq := by
  conv => arg 2; whnf
  go_upto_if 191 with fail
  go_cut [35, 36, 37, 38, 39, 40, 41, 42, 43, 44, 45, 46, 47, 48, 49] from 192 to 311 (fun s35 s36 s37 s38 s39 s40 s41 s42 s43 s44 s45 s46 s47 s48 s49 wx => Hid (Below wq.heap.size wq wx))
  case first =>
    clear MV B HT
    cases ok
    · go_wp2_with fail
      go_meet
      case rel => exact Lib.hid (Below.refl _ _)
    · as_aux_lemma =>
        have F := Lib.hid (HF.out rfl)
        clear HF
        have z1 : (s.size : Int) ≤ 10 := by have := F.out.h10; omega
        have z0 : 1 ≤ (s.size : Int) := by have := F.out.h1; omega
        go_wp2
        go_loopw [35] (fun n w' => ∃ pos : Nat, w' = wq.iter s pos ∧ pos ≤ s.size ∧ n = .int .i64 (cnt (s.data.toList.take pos) : Nat)) (fun _ w' => s.size - w'.iterPos wq.heap.size)
        case atStart => exact ⟨0, rfl, by omega, rfl⟩
        case round =>
          obtain ⟨pos, rfl, hp, rfl⟩ := hrel
          by_cases hlt : pos < s.size
          · as_aux_lemma =>
              have hsg := F.out.sg s[pos] (List.getElem_mem (l := s.data.toList) (n := pos) (by simpa using hlt))
              have hct := cnt_take hlt
              have hcl := cnt_le (s.data.toList.take pos)
              have hcl2 : ((cnt (s.data.toList.take pos) : Nat) : Int) ≤ 15 := by
                have := List.length_take_le pos s.data.toList
                omega
              obtain ⟨c, hc⟩ : ∃ c, c = cnt (s.data.toList.take pos) := ⟨_, rfl⟩
              rw [← hc] at hct hcl2 ⊢
              have hat := fun w => run_at w s pos hlt
              clear hc hcl F MM
              by_cases h1 : s[pos] = 111
              · have n1 : s[pos].toNat = 111 := by rw [h1]; rfl
                rw [if_pos h1] at hct
                have HCT := Lib.hid hct
                have hnx : ∀ ty, (Instr.next (.pointer (some ⟨wq.heap.size, 0, none⟩)) true ty).run Tryd.prog (wq.iter s pos) = _ := fun ty => run_next_ascii wq s pos ty hlt (by omega)
                rw [n1] at hat
                clear h1 hct hsg
                go_wp2
                exact ⟨⟨pos + 1, rfl, hlt, by rw [HCT.out]; go_num⟩, by simp; omega⟩
              · have h2 := hsg.resolve_left h1
                have n1 : s[pos].toNat = 101 := by rw [h2]; rfl
                rw [if_neg h1] at hct
                have HCT := Lib.hid hct
                have hnx : ∀ ty, (Instr.next (.pointer (some ⟨wq.heap.size, 0, none⟩)) true ty).run Tryd.prog (wq.iter s pos) = _ := fun ty => run_next_ascii wq s pos ty hlt (by omega)
                rw [n1] at hat
                clear h1 h2 hct hsg
                go_wp2
                exact ⟨⟨pos + 1, rfl, hlt, by rw [HCT.out]; rfl⟩, by simp; omega⟩
          · obtain rfl : pos = s.size := by omega
            have hnx : ∀ ty, (Instr.next (.pointer (some ⟨wq.heap.size, 0, none⟩)) true ty).run Tryd.prog (wq.iter s s.size) = _ := fun ty => run_next_end wq s s.size ty hlt
            have HT9 : Hid (s.data.toList.take s.size = s.data.toList) := Lib.hid (List.take_of_length_le (by simp))
            rw [HT9.out]
            have HB0 := Lib.hid (below_iter wq s s.size)
            have MM0 := Lib.hid (MM.out.kept HB0.out)
            clear MM hlt hp
            obtain ⟨o', ho'⟩ : ∃ o', cnt s.data.toList = o' := ⟨_, rfl⟩
            have hoL : o' ≤ s.size := by rw [← ho']; exact F.out.oL
            rw [ho'] at F ⊢
            go_wp2
            have hoi : (o' : Int) ≤ 10 := by omega
            obtain ⟨W0, hW0⟩ : ∃ W0, W0 = wq.iter s s.size := ⟨_, rfl⟩
            rw [← hW0] at HB0 MM0 ⊢
            clear hnx hW0 ho' HT9
            go_loopw [37, 38] (fun a i wr => ∃ j : Nat, j ≤ o' ∧ i = .int .i64 (j : Int) ∧ a = .int .i64 (t ^ j) ∧ W0 = wr) (fun _ i _ => o' - (RowKit.intOf i).toNat)
            case atStart => exact ⟨0, Nat.zero_le _, rfl, by simp, rfl⟩
            case round =>
              obtain ⟨j, hj, rfl, rfl, rfl⟩ := hrel
              have q0 := MM0.out.c0
              have q1 := MM0.out.c1
              by_cases hlt : j < o'
              · as_aux_lemma =>
                  have hlti : (j : Int) < (o' : Int) := by omega
                  obtain ⟨p1, p2⟩ := pow_b F.out.t1 F.out.t9 (k := j + 1) (by omega)
                  have hs : t ^ (j + 1) = t ^ j * t := Int.pow_succ ..
                  have HS := Lib.hid hs
                  rw [hs] at p1 p2
                  have hw : IntKind.i64.wrap (t ^ j * t) = t ^ j * t := by rw [IntKind.wrap_i64]; omega
                  have hw2 : IntKind.i64.wrap ((j : Int) + 1) = (j : Int) + 1 := by rw [IntKind.wrap_i64]; omega
                  generalize t ^ j = a at *
                  clear F MM0 p1 p2 hs
                  go_wp2
                  exact ⟨⟨j + 1, hlt, by go_num, by rw [HS.out], (by first | rfl | trivial)⟩, by simp [RowKit.intOf]; omega⟩
              · obtain rfl : j = o' := by omega
                have hlti : ¬ ((j : Int) < (j : Int)) := by omega
                have hd := F.out.hd
                have heq := F.out.eq
                have hone := F.out.one
                have nb := F.out.nb
                obtain ⟨p1, p2⟩ := pow_b F.out.t1 F.out.t9 (k := j) (by omega)
                have d2 := pow2_10 F.out.h10
                have hpp : t ^ j = pp := F.out.hp.symm
                rw [hpp] at p1 p2 ⊢
                have hx1 : RowKit.wrap64 (2 ^ s.size) = d := by rw [hd]; unfold RowKit.wrap64; omega
                have hx2 : RowKit.wrap64 (d - pp) = d - pp := by rw [hd]; unfold RowKit.wrap64; omega
                have hx3 : RowKit.wrap64 (num * (d - pp)) = RowKit.wrap64 (q * den) := by rw [heq]
                have hx4 : RowKit.wrap64 (-num) = -num := by unfold RowKit.wrap64; omega
                have hx5 : RowKit.wrap64 ((s.size : Int) - 1) = (s.size : Int) - 1 := by unfold RowKit.wrap64; omega
                have hden : ¬ den < 1 := by have := F.out.den1; omega
                have HAF := Lib.hid F.out.after
                have HTU := Lib.hid F.out.turn
                have HNG := Lib.hid F.out.neg
                have HMI := Lib.hid F.out.mir
                clear hd heq p1 p2 d2 F hpp
                cases is
                · have hdn : (den == 1) = false := by
                    cases h : (den == 1)
                    · rfl
                    · rw [decide_eq_true (eq_of_beq h)] at hone; cases hone
                  clear hone HAF HTU
                  go_wp2_with fail
                  refine (HNG.out _).mono ?_
                  rintro e w4 ⟨rfl, hb4⟩
                  have HB4 := Lib.hid (HB0.out.trans (hb4.mono HB0.out.size))
                  clear hb4 q0 q1
                  go_wp2_with fail
                  refine (HMI.out _).mono ?_
                  rintro e w5 ⟨rfl, hb5⟩
                  have HB5 := Lib.hid ((HB4.out.alloc HB4.out.size _).trans (hb5.mono (by have := HB4.out.size; simp; omega)))
                  clear hb5
                  go_wp2_with fail
                  go_meet
                  case rel => exact HB5
                · have hdn : (den == 1) = true := by rw [of_decide_eq_true hone.symm]; rfl
                  obtain ⟨af, ff, haf, hA⟩ := HAF.out rfl
                  obtain ⟨s2, hT1, hT2⟩ := HTU.out rfl
                  have HA := Lib.hid hA
                  have HT1 := Lib.hid hT1
                  have HT2 := Lib.hid hT2
                  clear hone HAF HTU hA hT1 hT2
                  go_upto_if 244 with fail
                  go_cut [39, 40, 41, 42, 43, 44] from 212 to 282 (fun s39 s40 s41 s42 s43 s44 wx => Hid (Below W0.heap.size W0 wx))
                  case first =>
                    go_wp2_with fail
                    refine (HA.out _).mono ?_
                    rintro e w1 ⟨rfl, hb1⟩
                    have HB1 := Lib.hid hb1
                    have MM1 := Lib.hid (MM0.out.kept hb1)
                    have q0 := MM1.out.c0
                    have q1 := MM1.out.c1
                    clear hb1 HA
                    cases ff
                    · go_wp2_with fail
                      refine (HT1.out _).mono ?_
                      rintro e w2 ⟨rfl, hb2⟩
                      have HB2 := Lib.hid (HB1.out.trans (hb2.mono HB1.out.size))
                      have MM2 := Lib.hid (MM1.out.kept hb2)
                      replace q0 := MM2.out.c0
                      replace q1 := MM2.out.c1
                      clear hb2
                      go_wp2_with fail
                      refine (HT2.out _).mono ?_
                      rintro e w3 ⟨rfl, hb3⟩
                      have HB3 := Lib.hid (HB2.out.trans (hb3.mono HB2.out.size))
                      clear hb3 q0 q1
                      go_wp2_with fail
                      go_meet
                      case rel => exact HB3
                    · obtain rfl : af = num := haf rfl
                      go_wp2_with fail
                      refine (HT1.out _).mono ?_
                      rintro e w2 ⟨rfl, hb2⟩
                      have HB2 := Lib.hid (HB1.out.trans (hb2.mono HB1.out.size))
                      have MM2 := Lib.hid (MM1.out.kept hb2)
                      replace q0 := MM2.out.c0
                      replace q1 := MM2.out.c1
                      clear hb2
                      go_wp2_with fail
                      refine (HT2.out _).mono ?_
                      rintro e w3 ⟨rfl, hb3⟩
                      have HB3 := Lib.hid (HB2.out.trans (hb3.mono HB2.out.size))
                      clear hb3 q0 q1
                      go_wp2_with fail
                      go_meet
                      case rel => exact HB3
                  case rest =>
                    have hb := hcut.out
                    replace HB0 := Lib.hid (HB0.out.trans (hb.mono HB0.out.size))
                    replace MM0 := Lib.hid (MM0.out.kept hb)
                    have q0 := MM0.out.c0
                    have q1 := MM0.out.c1
                    clear hb hcut HA HT1 HT2
                    go_wp2_with fail
                    refine (HNG.out _).mono ?_
                    rintro e w4 ⟨rfl, hb4⟩
                    have HB4 := Lib.hid (HB0.out.trans (hb4.mono HB0.out.size))
                    clear hb4 q0 q1
                    go_wp2_with fail
                    refine (HMI.out _).mono ?_
                    rintro e w5 ⟨rfl, hb5⟩
                    have HB5 := Lib.hid ((HB4.out.alloc HB4.out.size _).trans (hb5.mono (by have := HB4.out.size; simp; omega)))
                    clear hb5
                    go_wp2_with fail
                    go_meet
                    case rel => exact HB5
  case rest =>
    have hb := hcut.out
    refine ‹∀ (a : Act) (w : World), Code.wp _ _ _ a w → _› _ _ ?_
    exact wa_c tv pv len T k z o Bv w _ (Lib.hid (MV.out.kept hb)) (Lib.hid (B.out.trans (hb.mono B.out.size))) HT _ _ _ _ _ _ _ _ _ _ _ _ _ _ _ _ _ _ _ _ _ _ _ _ _ _ _ _ _ _ _ _ _ _ _ _ _ _ _ _ _ _ _ _ _ _ _ _ _ _ _ _ _ _ _ _ _ _ _ _ _ _ _ _ _ _ _ _ _ _ _ _ _ _ _ _ _ _ _ _ _ _ _ _ _ _ _ _ _ _ _ _ _ _ _ _ _ _ _ _ _ _ _ _ _ _ _ _ _ _ _ _ _ _ _ _ _ _ _ _ _ _ _ _ _ _ _ _ _ _ _ _ _ _ _ _ _ _ _ _ _ _ _ _ _ _ _ _ _ _ _ _ _ _ _ _ _ _ _ _ _ _ _ _ _ _ _ _ _ _ _ _ _ _ _ _ _ _ _ _ _ _ _ _ _ _ _ _ _ _ _ _ _ _ _ _ _ _ _ _ _ _ _ _ _ _ _ _ _ _ _ _ _ _ _ _ _ _ _ _ _ _ _ _ _ _ _ _ _ _ _ _ _ _ _ _ _ _ _ _ _ _ _ _ _ _ _ _ _ _ _ _ _ _ _ _ _ _ _ _ _ _ _ _ _ _ _ _ _ _ _ _ _ _ _ _ _ _ _ _ _ _ _ _ _ _ _ _ _ _ _ _ _ _ _ _ _ _ _ _ _ _ _ _ _ _ _ _ _ _ _ _ _ _ _ _ _ _ _ _ _ _ _ _ _ _ _ _ _ _ _ _ _ _ _ _ _ _ _ _ _ _ _ _ _ _ _ _ _ _ _ _ _ _ _ _ _ _ _ _ _ _ _ _ _ _ _ _ _ _ _ _ _ _ _ _ _ _ _ _ _ _ _ _ _ _ _ _ _ _ _ _ _ _ _ _ _ _ _ _ _ _ _ _ _ _ _ _ _ _ _ _ _ _ _ _ _ _ _ _ _ _ _ _ _ _ _ _ _ _ _ _ _ _ _ _ _ _ _ _ _ _ _ _ _ _ _ _ _ _ _ _ _ _ _ _ _ _ _ _ _ _ _ _ _ _ _ _ _ _ _ _ _ _ _ _ _ _ _ _ _ _ _ _ _ _ _ _ _ _ _ _ _ _ _ _ _ _ _ _ _ _ _ _ _ _ _ _ _ _ _ _ _ _ _ _ _ _ _ _ _ _ _ _ _ _ _ _ _ _ _ _ _ _ _ _ _ _ _ _ _ _ _ _ _ _ _ _ _ _ _ _ _ _ _ _ _ _ _ _ _ _ _ _ _ _ _ _
end Go.Proofs.YtnhpoefhcngoaaaDoor
