/-
  THE WALK OF THE LAW 'StepsGo' ON BYTES: its great condition, the case F3, then what follows.
-/
import Derived.Test.YtebbafapcknllaaSbB
import Derived.RegionTactic
import Derived.Deep.RegionHeld3
namespace Go.Proofs.Ytebbafapcknllaa
open Go.RowKit
set_option linter.unusedVariables false
theorem np_putGF3 {Q : Exit → Act → World → Prop} {d : Option Tmp} {v : Value} : ∀ c (a : Act) (w : World), NoPanic Q (Exit.panic c) (a.put d v) w → NoPanic Q (Exit.panic c) a w := fun _ _ _ h => h
noncomputable def sb_F3Code : Code := ((Try.f3.body.bind (restFrom 18)).getD .skip)
set_option maxRecDepth 100000 in
set_option maxHeartbeats 16000000 in
theorem sb_F3 (vm : Value) (b1 : Nat) (t p n k A : Int) (se : Bool) (xs : List Int) (sg : ByteArray) (od : Nat) (P1 P2 L1 L2 s1 : Int) (v3 v4 : Value) (w wq : World) (M : Hid (Two9 wq b1 t p)) (B : Hid (Below w.heap.size w wq)) (HM : Hid (BytesArg w vm)) (R3 : Hid (IntsIn wq v3 xs)) (R4 : Hid (IntsIn wq v4 xs)) (HF : Hid (SgF t p n k A true xs true sg od P1 P2 L1 L2 s1 se)) (s0 s2 s3 s4 s40 s41 s42 s43 s44 s45 s46 s47 s48 s49 s50 s51 s52 s53 s54 s55 s56 s57 s58 s59 s60 s61 s62 s63 s64 s65 s66 s67 s68 s69 s70 s71 s72 s73 s74 s75 s76 s77 s78 s79 s80 s81 s82 s83 s84 s85 s86 s87 s88 s89 s90 s91 s92 s93 s94 s95 s96 s97 s98 s99 s100 s101 s102 s103 s104 s105 s106 s107 s108 s109 s110 s111 s112 s113 s114 s115 s116 s117 s118 s119 s120 s121 s122 s123 s124 s125 s126 s127 s128 s129 s130 s131 s132 s133 s134 s135 s136 s137 s138 s139 s140 s141 s142 s143 s144 s145 s146 s147 s148 s149 s150 s151 s152 s153 s154 s155 s156 s157 s158 s159 s160 s161 s162 s163 s164 s165 s166 s167 s168 s169 s170 s171 s172 s173 s174 s175 s176 s177 s178 s179 s180 s181 s182 s183 s184 s185 s186 s187 s188 s189 s190 s191 s192 s193 s194 s195 s196 s197 s198 s199 s200 s201 s202 s203 s204 s205 s206 s207 s208 s209 s210 s211 s212 s213 s214 s215 s216 s217 s218 s219 s220 s221 s222 s223 s224 s225 s226 s227 s228 s229 s230 s231 s232 s233 s234 s235 s236 s237 s238 s239 s240 s241 s242 s243 s244 s245 s246 s247 s248 s249 s250 s251 s252 s253 s254 s255 s256 s257 s258 s259 s260 s261 s262 s263 s264 s265 s266 s267 s268 s269 s270 s271 s272 s273 s274 s275 s276 s277 s278 s279 s280 s281 s282 s283 s284 s285 s286 s287 s288 s289 s290 s291 s292 s293 s294 s295 s296 s297 s298 s299 s300 s301 s302 s303 s304 s305 s306 s307 s308 s309 s310 s311 s312 s313 s314 s315 s316 s317 s318 s319 s320 s321 s322 s323 s324 s325 s326 s327 s328 s329 s330 s331 s332 s333 s334 s335 s336 s337 s338 s339 s340 s341 s342 s343 s344 s345 s346 s347 s348 s349 s350 s351 s352 s353 s354 s355 s356 s357 s358 s359 s360 s361 s362 s363 s364 s365 s366 s367 s368 s369 s370 s371 s372 s373 s374 s375 s376 s377 s378 s379 s380 s381 s382 s383 s384 s385 s386 s387 s388 s389 s390 s391 s392 s393 s394 s395 s396 s397 s398 s399 s400 s401 s402 s403 s404 s405 s406 s407 s408 s409 s410 s411 s412 s413 s414 s415 s416 s417 s418 s419 s420 s421 s422 s423 s424 s425 s426 s427 s428 s429 s430 s431 s432 s433 s434 s435 s436 s437 s438 s439 s440 s441 s442 s443 s444 s445 s446 s447 s448 s449 s450 s451 s452 s453 s454 s455 s456 s457 s458 s459 s460 s461 s462 s463 s464 s465 s466 s467 s468 s469 s470 s471 s472 s473 s474 s475 s476 s477 s478 s479 s480 s481 s482 s483 s484 s485 s486 s487 s488 s489 s490 s491 s492 s493 s494 s495 s496 s497 s498 s499 s500 s501 s502 s503 s504 s505 s506 s507 s508 s509 s510 s511 s512 s513 s514 s515 s516 s517 s518 s519 s520 s521 s522 s523 s524 s525 s526 s527 s528 s529 s530 s531 s532 s533 s534 s535 s536 s537 s538 s539 s540 s541 s542 s543 s544 s545 s546 s547 s548 s549 s550 s551 s552 s553 s554 s555 s556 s557 s558 s559 s560 s561 s562 s563 s564 s565 s566 s567 s568 s569 s570 s571 s572 s573 s574 s575 s576 s577 s578 s579 s580 s581 s582 s583 s584 s585 s586 s587 s588 s589 s590 s591 s592 s593 s594 s595 s596 s597 s598 s599 s600 s601 s602 s603 s604 s605 s606 s607 s608 s609 s610 s611 s612 s613 s614 s615 : Value) :
    Code.wp Try.prog sb_F3Code (bodyPost Try.prog Try.f3 fun e w' => e = .returned (.bool true) ∧ Below w.heap.size w w') ⟨#[s0, vm, s2, s3, s4, .pointer (some ⟨b1, 0, none⟩), .int .i64 n, .int .i64 k, .int .i64 A, .bool true, .int .i64 A, .bool true, v3, .bool true, v4, .bool true, .string sg, .bool true, .string sg, .bool true, .int .i64 (od : Int), .bool true, .int .i64 (od : Int), .bool true, .int .i64 P1, .int .i64 P2, .bool true, .int .i64 P1, .int .i64 P2, .bool true, .int .i64 L1, .int .i64 L2, .bool true, .int .i64 L1, .int .i64 L2, .bool true, .int .i64 s1, .bool se, .int .i64 s1, .bool se, s40, s41, s42, s43, s44, s45, s46, s47, s48, s49, s50, s51, s52, s53, s54, s55, s56, s57, s58, s59, s60, s61, s62, s63, s64, s65, s66, s67, s68, s69, s70, s71, s72, s73, s74, s75, s76, s77, s78, s79, s80, s81, s82, s83, s84, s85, s86, s87, s88, s89, s90, s91, s92, s93, s94, s95, s96, s97, s98, s99, s100, s101, s102, s103, s104, s105, s106, s107, s108, s109, s110, s111, s112, s113, s114, s115, s116, s117, s118, s119, s120, s121, s122, s123, s124, s125, s126, s127, s128, s129, s130, s131, s132, s133, s134, s135, s136, s137, s138, s139, s140, s141, s142, s143, s144, s145, s146, s147, s148, s149, s150, s151, s152, s153, s154, s155, s156, s157, s158, s159, s160, s161, s162, s163, s164, s165, s166, s167, s168, s169, s170, s171, s172, s173, s174, s175, s176, s177, s178, s179, s180, s181, s182, s183, s184, s185, s186, s187, s188, s189, s190, s191, s192, s193, s194, s195, s196, s197, s198, s199, s200, s201, s202, s203, s204, s205, s206, s207, s208, s209, s210, s211, s212, s213, s214, s215, s216, s217, s218, s219, s220, s221, s222, s223, s224, s225, s226, s227, s228, s229, s230, s231, s232, s233, s234, s235, s236, s237, s238, s239, s240, s241, s242, s243, s244, s245, s246, s247, s248, s249, s250, s251, s252, s253, s254, s255, s256, s257, s258, s259, s260, s261, s262, s263, s264, s265, s266, s267, s268, s269, s270, s271, s272, s273, s274, s275, s276, s277, s278, s279, s280, s281, s282, s283, s284, s285, s286, s287, s288, s289, s290, s291, s292, s293, s294, s295, s296, s297, s298, s299, s300, s301, s302, s303, s304, s305, s306, s307, s308, s309, s310, s311, s312, s313, s314, s315, s316, s317, s318, s319, s320, s321, s322, s323, s324, s325, s326, s327, s328, s329, s330, s331, s332, s333, s334, s335, s336, s337, s338, s339, s340, s341, s342, s343, s344, s345, s346, s347, s348, s349, s350, s351, s352, s353, s354, s355, s356, s357, s358, s359, s360, s361, s362, s363, s364, s365, s366, s367, s368, s369, s370, s371, s372, s373, s374, s375, s376, s377, s378, s379, s380, s381, s382, s383, s384, s385, s386, s387, s388, s389, s390, s391, s392, s393, s394, s395, s396, s397, s398, s399, s400, s401, s402, s403, s404, s405, s406, s407, s408, s409, s410, s411, s412, s413, s414, s415, s416, s417, s418, s419, s420, s421, s422, s423, s424, s425, s426, s427, s428, s429, s430, s431, s432, s433, s434, s435, s436, s437, s438, s439, s440, s441, s442, s443, s444, s445, s446, s447, s448, s449, s450, s451, s452, s453, s454, s455, s456, s457, s458, s459, s460, s461, s462, s463, s464, s465, s466, s467, s468, s469, s470, s471, s472, s473, s474, s475, s476, s477, s478, s479, s480, s481, s482, s483, s484, s485, s486, s487, s488, s489, s490, s491, s492, s493, s494, s495, s496, s497, s498, s499, s500, s501, s502, s503, s504, s505, s506, s507, s508, s509, s510, s511, s512, s513, s514, s515, s516, s517, s518, s519, s520, s521, s522, s523, s524, s525, s526, s527, s528, s529, s530, s531, s532, s533, s534, s535, s536, s537, s538, s539, s540, s541, s542, s543, s544, s545, s546, s547, s548, s549, s550, s551, s552, s553, s554, s555, s556, s557, s558, s559, s560, s561, s562, s563, s564, s565, s566, s567, s568, s569, s570, s571, s572, s573, s574, s575, s576, s577, s578, s579, s580, s581, s582, s583, s584, s585, s586, s587, s588, s589, s590, s591, s592, s593, s594, s595, s596, s597, s598, s599, s600, s601, s602, s603, s604, s605, s606, s607, s608, s609, s610, s611, s612, s613, s614, s615], []⟩ wq := by
  conv => arg 2; whnf
  have HXL := Lib.hid (sgf_len HF.out)
  have HM1 := Lib.hid (fun w => isMap_any t p w)
  have HM2 := Lib.hid (fun w => sIsMap t p w)
  have HBG := Lib.hid (fun (h : true = true) => sgf_good HF.out h)
  generalize goodB t p = g at HBG HM1 HM2
  go_upto_region 18 with fail
  simp only [List.append_eq, List.cons_append, List.nil_append]
  go_cut [311] from 184 to 311 (fun s wx => s = .bool false ∧ Hid (Below wq.heap.size wq wx))
  case first =>
    have HV := Lib.hid (fun W (hb : Below wq.heap.size wq W) => vSame_any xs v3 v4 W HXL.out (R3.out.kept hb) (R4.out.kept hb))
    have c0 := M.out.c0
    have c1 := M.out.c1
    have l8 : b1 < wq.heap.size := M.out.lt
    clear HXL M B R3 R4 HF HM
    refine wp_region_noPanic ?_
    refine wp_region_held_drew (S := fun W => Below wq.heap.size wq W) (by kernel_rfl) (Below.refl _ _).drew (fun hHeld => ?_)
    refine wpAnyH_take (i := 0) (oi := { dst := some 184, op := Op.move (Operand.tmp 9), type := 4, pos := "laws.go:1772", after := #[], guard := none }) (v := ?_) rfl (by kernel_rfl) (by kernel_rfl) (by kernel_rfl) np_putGF3 (Or.inl ⟨by rfl, ?_⟩) (by assumption) ?_
    rotate_left
    · (intro wS hSw; go_simp; (try with_reducible rfl))
    (try simp only [Act.put, List.setIfInBounds_toArray, List.set_cons_zero, List.set_cons_succ])
    refine wpAnyH_take (i := 1) (oi := { dst := some 185, op := Op.move (Operand.tmp 11), type := 4, pos := "laws.go:1772", after := #[], guard := none }) (v := ?_) rfl (by kernel_rfl) (by kernel_rfl) (by kernel_rfl) np_putGF3 (Or.inl ⟨by rfl, ?_⟩) (by assumption) ?_
    rotate_left
    · (intro wS hSw; go_simp; (try with_reducible rfl))
    (try simp only [Act.put, List.setIfInBounds_toArray, List.set_cons_zero, List.set_cons_succ])
    refine wpAnyH_take (i := 2) (oi := { dst := some 186, op := Op.binOp BinOp.neq 4 (Operand.tmp 184) (Operand.tmp 185) 4, type := 4, pos := "laws.go:1772", after := #[{ on := 0, ground := Ground.data }, { on := 1, ground := Ground.data }], guard := none }) (v := ?_) rfl (by kernel_rfl) (by kernel_rfl) (by kernel_rfl) np_putGF3 (Or.inl ⟨by rfl, ?_⟩) (by assumption) ?_
    rotate_left
    · (intro wS hSw; go_simp; (try with_reducible rfl))
    (try simp only [Act.put, List.setIfInBounds_toArray, List.set_cons_zero, List.set_cons_succ])
    refine wpAnyH_take (i := 3) (oi := { dst := some 187, op := Op.move (Operand.tmp 186), type := 4, pos := "laws.go:1772", after := #[{ on := 2, ground := Ground.data }], guard := none }) (v := ?_) rfl (by kernel_rfl) (by kernel_rfl) (by kernel_rfl) np_putGF3 (Or.inl ⟨by rfl, ?_⟩) (by assumption) ?_
    rotate_left
    · (intro wS hSw; go_simp; (try with_reducible rfl))
    (try simp only [Act.put, List.setIfInBounds_toArray, List.set_cons_zero, List.set_cons_succ])
    refine wpAnyH_take (i := 4) (oi := { dst := some 188, op := Op.move (Operand.tmp 8), type := 3, pos := "laws.go:1772", after := #[{ on := 3, ground := Ground.guard }], guard := some (3, false) }) (v := ?_) rfl (by kernel_rfl) (by kernel_rfl) (by kernel_rfl) np_putGF3 (Or.inl ⟨by rfl, ?_⟩) (by assumption) ?_
    rotate_left
    · (intro wS hSw; go_simp; (try with_reducible rfl))
    (try simp only [Act.put, List.setIfInBounds_toArray, List.set_cons_zero, List.set_cons_succ])
    refine wpAnyH_take (i := 5) (oi := { dst := some 189, op := Op.move (Operand.tmp 10), type := 3, pos := "laws.go:1772", after := #[{ on := 3, ground := Ground.guard }], guard := some (3, false) }) (v := ?_) rfl (by kernel_rfl) (by kernel_rfl) (by kernel_rfl) np_putGF3 (Or.inl ⟨by rfl, ?_⟩) (by assumption) ?_
    rotate_left
    · (intro wS hSw; go_simp; (try with_reducible rfl))
    (try simp only [Act.put, List.setIfInBounds_toArray, List.set_cons_zero, List.set_cons_succ])
    refine wpAnyH_take (i := 6) (oi := { dst := some 190, op := Op.binOp BinOp.neq 3 (Operand.tmp 188) (Operand.tmp 189) 3, type := 4, pos := "laws.go:1772", after := #[{ on := 4, ground := Ground.data }, { on := 5, ground := Ground.data }, { on := 3, ground := Ground.guard }], guard := some (3, false) }) (v := ?_) rfl (by kernel_rfl) (by kernel_rfl) (by kernel_rfl) np_putGF3 (Or.inl ⟨by rfl, ?_⟩) (by assumption) ?_
    rotate_left
    · (intro wS hSw; go_simp; (try with_reducible rfl))
    (try simp only [Act.put, List.setIfInBounds_toArray, List.set_cons_zero, List.set_cons_succ])
    refine wpAnyH_take (i := 7) (oi := { dst := some 191, op := Op.pick (Operand.tmp 187) (Operand.const (Value.bool true)) (Operand.tmp 190), type := 4, pos := "laws.go:1772", after := #[{ on := 3, ground := Ground.data }, { on := 6, ground := Ground.data }], guard := none }) (v := ?_) rfl (by kernel_rfl) (by kernel_rfl) (by kernel_rfl) np_putGF3 (Or.inl ⟨by rfl, ?_⟩) (by assumption) ?_
    rotate_left
    · (intro wS hSw; go_simp; (try with_reducible rfl))
    (try simp only [Act.put, List.setIfInBounds_toArray, List.set_cons_zero, List.set_cons_succ])
    refine wpAnyH_take (i := 8) (oi := { dst := some 192, op := Op.move (Operand.tmp 191), type := 4, pos := "laws.go:1772", after := #[{ on := 7, ground := Ground.data }, { on := 3, ground := Ground.chain }], guard := none }) (v := ?_) rfl (by kernel_rfl) (by kernel_rfl) (by kernel_rfl) np_putGF3 (Or.inl ⟨by rfl, ?_⟩) (by assumption) ?_
    rotate_left
    · (intro wS hSw; go_simp; (try with_reducible rfl))
    (try simp only [Act.put, List.setIfInBounds_toArray, List.set_cons_zero, List.set_cons_succ])
    refine wpAnyH_take (i := 9) (oi := { dst := some 193, op := Op.move (Operand.tmp 13), type := 4, pos := "laws.go:1772", after := #[{ on := 8, ground := Ground.guard }], guard := some (8, false) }) (v := ?_) rfl (by kernel_rfl) (by kernel_rfl) (by kernel_rfl) np_putGF3 (Or.inl ⟨by rfl, ?_⟩) (by assumption) ?_
    rotate_left
    · (intro wS hSw; go_simp; (try with_reducible rfl))
    (try simp only [Act.put, List.setIfInBounds_toArray, List.set_cons_zero, List.set_cons_succ])
    refine wpAnyH_take (i := 10) (oi := { dst := some 194, op := Op.move (Operand.tmp 15), type := 4, pos := "laws.go:1772", after := #[{ on := 8, ground := Ground.guard }], guard := some (8, false) }) (v := ?_) rfl (by kernel_rfl) (by kernel_rfl) (by kernel_rfl) np_putGF3 (Or.inl ⟨by rfl, ?_⟩) (by assumption) ?_
    rotate_left
    · (intro wS hSw; go_simp; (try with_reducible rfl))
    (try simp only [Act.put, List.setIfInBounds_toArray, List.set_cons_zero, List.set_cons_succ])
    refine wpAnyH_take (i := 11) (oi := { dst := some 195, op := Op.binOp BinOp.neq 4 (Operand.tmp 193) (Operand.tmp 194) 4, type := 4, pos := "laws.go:1772", after := #[{ on := 9, ground := Ground.data }, { on := 10, ground := Ground.data }, { on := 8, ground := Ground.guard }], guard := some (8, false) }) (v := ?_) rfl (by kernel_rfl) (by kernel_rfl) (by kernel_rfl) np_putGF3 (Or.inl ⟨by rfl, ?_⟩) (by assumption) ?_
    rotate_left
    · (intro wS hSw; go_simp; (try with_reducible rfl))
    (try simp only [Act.put, List.setIfInBounds_toArray, List.set_cons_zero, List.set_cons_succ])
    as_aux_lemma =>
      refine wpAnyH_take (i := 12) (oi := { dst := some 196, op := Op.pick (Operand.tmp 192) (Operand.const (Value.bool true)) (Operand.tmp 195), type := 4, pos := "laws.go:1772", after := #[{ on := 8, ground := Ground.data }, { on := 11, ground := Ground.data }], guard := none }) (v := ?_) rfl (by kernel_rfl) (by kernel_rfl) (by kernel_rfl) np_putGF3 (Or.inl ⟨by rfl, ?_⟩) (by assumption) ?_
      rotate_left
      · (intro wS hSw; go_simp; (try with_reducible rfl))
      (try simp only [Act.put, List.setIfInBounds_toArray, List.set_cons_zero, List.set_cons_succ])
      refine wpAnyH_take (i := 13) (oi := { dst := some 197, op := Op.move (Operand.tmp 196), type := 4, pos := "laws.go:1772", after := #[{ on := 12, ground := Ground.data }, { on := 8, ground := Ground.chain }], guard := none }) (v := ?_) rfl (by kernel_rfl) (by kernel_rfl) (by kernel_rfl) np_putGF3 (Or.inl ⟨by rfl, ?_⟩) (by assumption) ?_
      rotate_left
      · (intro wS hSw; go_simp; (try with_reducible rfl))
      (try simp only [Act.put, List.setIfInBounds_toArray, List.set_cons_zero, List.set_cons_succ])
      refine wpAnyH_take (i := 14) (oi := { dst := some 198, op := Op.move (Operand.tmp 12), type := 30, pos := "laws.go:1772", after := #[{ on := 13, ground := Ground.guard }], guard := some (13, false) }) (v := ?_) rfl (by kernel_rfl) (by kernel_rfl) (by kernel_rfl) np_putGF3 (Or.inl ⟨by rfl, ?_⟩) (by assumption) ?_
      rotate_left
      · (intro wS hSw; go_simp; (try with_reducible rfl))
      (try simp only [Act.put, List.setIfInBounds_toArray, List.set_cons_zero, List.set_cons_succ])
      refine wpAnyH_take (i := 15) (oi := { dst := some 199, op := Op.move (Operand.tmp 14), type := 30, pos := "laws.go:1772", after := #[{ on := 13, ground := Ground.guard }], guard := some (13, false) }) (v := ?_) rfl (by kernel_rfl) (by kernel_rfl) (by kernel_rfl) np_putGF3 (Or.inl ⟨by rfl, ?_⟩) (by assumption) ?_
      rotate_left
      · (intro wS hSw; go_simp; (try with_reducible rfl))
      (try simp only [Act.put, List.setIfInBounds_toArray, List.set_cons_zero, List.set_cons_succ])
      refine wpAnyH_ready (rs := [16]) (by kernel_rfl) (by simp) ?_
      refine AllReadyH.cons (o := { dst := some 200, op := Op.call { callee := Callee.value (Operand.func 20), args := #[Operand.tmp 198, Operand.tmp 199], argTypes := #[30, 30] }, type := 4, pos := "laws.go:1772", after := #[{ on := 14, ground := Ground.data }, { on := 15, ground := Ground.data }, { on := 13, ground := Ground.chain }, { on := 13, ground := Ground.guard }], guard := some (13, false) }) rfl (fun K hK => ?_) AllReadyH.nil
      go_simp
      (go_at_call 20; refine (HV.out _ (Below.refl _ wq).drew).mono ?_; rintro e w15 ⟨rfl, hb15⟩)
      have HB15 := Lib.hid ((Below.refl _ wq).drew.trans hb15)
      clear hb15
      refine hK.out _ _ (HB15.out) (fun hHeld2 => ?_)
      clear hK K
      (try simp only [Act.put, List.setIfInBounds_toArray, List.set_cons_zero, List.set_cons_succ])
      refine wpAnyH_take (i := 17) (oi := { dst := some 201, op := Op.unOp UnOp.not 4 (Operand.tmp 200), type := 4, pos := "laws.go:1772", after := #[{ on := 16, ground := Ground.data }, { on := 13, ground := Ground.guard }], guard := some (13, false) }) (v := ?_) rfl (by kernel_rfl) (by kernel_rfl) (by kernel_rfl) np_putGF3 (Or.inl ⟨by rfl, ?_⟩) (by assumption) ?_
      rotate_left
      · (intro wS hSw; go_simp; (try with_reducible rfl))
      (try simp only [Act.put, List.setIfInBounds_toArray, List.set_cons_zero, List.set_cons_succ])
      refine wpAnyH_take (i := 18) (oi := { dst := some 202, op := Op.pick (Operand.tmp 197) (Operand.const (Value.bool true)) (Operand.tmp 201), type := 4, pos := "laws.go:1772", after := #[{ on := 13, ground := Ground.data }, { on := 17, ground := Ground.data }], guard := none }) (v := ?_) rfl (by kernel_rfl) (by kernel_rfl) (by kernel_rfl) np_putGF3 (Or.inl ⟨by rfl, ?_⟩) (by assumption) ?_
      rotate_left
      · (intro wS hSw; go_simp; (try with_reducible rfl))
      (try simp only [Act.put, List.setIfInBounds_toArray, List.set_cons_zero, List.set_cons_succ])
      refine wpAnyH_take (i := 19) (oi := { dst := some 203, op := Op.move (Operand.tmp 202), type := 4, pos := "laws.go:1772", after := #[{ on := 18, ground := Ground.data }, { on := 16, ground := Ground.chain }], guard := none }) (v := ?_) rfl (by kernel_rfl) (by kernel_rfl) (by kernel_rfl) np_putGF3 (Or.inl ⟨by rfl, ?_⟩) (by assumption) ?_
      rotate_left
      · (intro wS hSw; go_simp; (try with_reducible rfl))
      (try simp only [Act.put, List.setIfInBounds_toArray, List.set_cons_zero, List.set_cons_succ])
      refine wpAnyH_take (i := 20) (oi := { dst := some 204, op := Op.move (Operand.tmp 17), type := 4, pos := "laws.go:1772", after := #[{ on := 19, ground := Ground.guard }], guard := some (19, false) }) (v := ?_) rfl (by kernel_rfl) (by kernel_rfl) (by kernel_rfl) np_putGF3 (Or.inl ⟨by rfl, ?_⟩) (by assumption) ?_
      rotate_left
      · (intro wS hSw; go_simp; (try with_reducible rfl))
      (try simp only [Act.put, List.setIfInBounds_toArray, List.set_cons_zero, List.set_cons_succ])
      refine wpAnyH_take (i := 21) (oi := { dst := some 205, op := Op.move (Operand.tmp 19), type := 4, pos := "laws.go:1772", after := #[{ on := 19, ground := Ground.guard }], guard := some (19, false) }) (v := ?_) rfl (by kernel_rfl) (by kernel_rfl) (by kernel_rfl) np_putGF3 (Or.inl ⟨by rfl, ?_⟩) (by assumption) ?_
      rotate_left
      · (intro wS hSw; go_simp; (try with_reducible rfl))
      (try simp only [Act.put, List.setIfInBounds_toArray, List.set_cons_zero, List.set_cons_succ])
      refine wpAnyH_take (i := 22) (oi := { dst := some 206, op := Op.binOp BinOp.neq 4 (Operand.tmp 204) (Operand.tmp 205) 4, type := 4, pos := "laws.go:1772", after := #[{ on := 20, ground := Ground.data }, { on := 21, ground := Ground.data }, { on := 19, ground := Ground.guard }], guard := some (19, false) }) (v := ?_) rfl (by kernel_rfl) (by kernel_rfl) (by kernel_rfl) np_putGF3 (Or.inl ⟨by rfl, ?_⟩) (by assumption) ?_
      rotate_left
      · (intro wS hSw; go_simp; (try with_reducible rfl))
      (try simp only [Act.put, List.setIfInBounds_toArray, List.set_cons_zero, List.set_cons_succ])
      refine wpAnyH_take (i := 23) (oi := { dst := some 207, op := Op.pick (Operand.tmp 203) (Operand.const (Value.bool true)) (Operand.tmp 206), type := 4, pos := "laws.go:1772", after := #[{ on := 19, ground := Ground.data }, { on := 22, ground := Ground.data }], guard := none }) (v := ?_) rfl (by kernel_rfl) (by kernel_rfl) (by kernel_rfl) np_putGF3 (Or.inl ⟨by rfl, ?_⟩) (by assumption) ?_
      rotate_left
      · (intro wS hSw; go_simp; (try with_reducible rfl))
      (try simp only [Act.put, List.setIfInBounds_toArray, List.set_cons_zero, List.set_cons_succ])
      as_aux_lemma =>
        refine wpAnyH_take (i := 24) (oi := { dst := some 208, op := Op.move (Operand.tmp 207), type := 4, pos := "laws.go:1772", after := #[{ on := 23, ground := Ground.data }, { on := 19, ground := Ground.chain }], guard := none }) (v := ?_) rfl (by kernel_rfl) (by kernel_rfl) (by kernel_rfl) np_putGF3 (Or.inl ⟨by rfl, ?_⟩) (by assumption) ?_
        rotate_left
        · (intro wS hSw; go_simp; (try with_reducible rfl))
        (try simp only [Act.put, List.setIfInBounds_toArray, List.set_cons_zero, List.set_cons_succ])
        refine wpAnyH_take (i := 25) (oi := { dst := some 209, op := Op.move (Operand.tmp 16), type := 9, pos := "laws.go:1772", after := #[{ on := 24, ground := Ground.guard }], guard := some (24, false) }) (v := ?_) rfl (by kernel_rfl) (by kernel_rfl) (by kernel_rfl) np_putGF3 (Or.inl ⟨by rfl, ?_⟩) (by assumption) ?_
        rotate_left
        · (intro wS hSw; go_simp; (try with_reducible rfl))
        (try simp only [Act.put, List.setIfInBounds_toArray, List.set_cons_zero, List.set_cons_succ])
        refine wpAnyH_take (i := 26) (oi := { dst := some 210, op := Op.move (Operand.tmp 18), type := 9, pos := "laws.go:1772", after := #[{ on := 24, ground := Ground.guard }], guard := some (24, false) }) (v := ?_) rfl (by kernel_rfl) (by kernel_rfl) (by kernel_rfl) np_putGF3 (Or.inl ⟨by rfl, ?_⟩) (by assumption) ?_
        rotate_left
        · (intro wS hSw; go_simp; (try with_reducible rfl))
        (try simp only [Act.put, List.setIfInBounds_toArray, List.set_cons_zero, List.set_cons_succ])
        refine wpAnyH_take (i := 27) (oi := { dst := some 211, op := Op.binOp BinOp.neq 9 (Operand.tmp 209) (Operand.tmp 210) 9, type := 4, pos := "laws.go:1772", after := #[{ on := 25, ground := Ground.data }, { on := 26, ground := Ground.data }, { on := 24, ground := Ground.guard }], guard := some (24, false) }) (v := ?_) rfl (by kernel_rfl) (by kernel_rfl) (by kernel_rfl) np_putGF3 (Or.inl ⟨by rfl, ?_⟩) (by assumption) ?_
        rotate_left
        · (intro wS hSw; go_simp; (try with_reducible rfl))
        (try simp only [Act.put, List.setIfInBounds_toArray, List.set_cons_zero, List.set_cons_succ])
        refine wpAnyH_take (i := 28) (oi := { dst := some 212, op := Op.pick (Operand.tmp 208) (Operand.const (Value.bool true)) (Operand.tmp 211), type := 4, pos := "laws.go:1772", after := #[{ on := 24, ground := Ground.data }, { on := 27, ground := Ground.data }], guard := none }) (v := ?_) rfl (by kernel_rfl) (by kernel_rfl) (by kernel_rfl) np_putGF3 (Or.inl ⟨by rfl, ?_⟩) (by assumption) ?_
        rotate_left
        · (intro wS hSw; go_simp; (try with_reducible rfl))
        (try simp only [Act.put, List.setIfInBounds_toArray, List.set_cons_zero, List.set_cons_succ])
        refine wpAnyH_take (i := 29) (oi := { dst := some 213, op := Op.move (Operand.tmp 212), type := 4, pos := "laws.go:1772", after := #[{ on := 28, ground := Ground.data }, { on := 24, ground := Ground.chain }], guard := none }) (v := ?_) rfl (by kernel_rfl) (by kernel_rfl) (by kernel_rfl) np_putGF3 (Or.inl ⟨by rfl, ?_⟩) (by assumption) ?_
        rotate_left
        · (intro wS hSw; go_simp; (try with_reducible rfl))
        (try simp only [Act.put, List.setIfInBounds_toArray, List.set_cons_zero, List.set_cons_succ])
        refine wpAnyH_take (i := 30) (oi := { dst := some 214, op := Op.move (Operand.tmp 21), type := 4, pos := "laws.go:1772", after := #[{ on := 29, ground := Ground.guard }], guard := some (29, false) }) (v := ?_) rfl (by kernel_rfl) (by kernel_rfl) (by kernel_rfl) np_putGF3 (Or.inl ⟨by rfl, ?_⟩) (by assumption) ?_
        rotate_left
        · (intro wS hSw; go_simp; (try with_reducible rfl))
        (try simp only [Act.put, List.setIfInBounds_toArray, List.set_cons_zero, List.set_cons_succ])
        refine wpAnyH_take (i := 31) (oi := { dst := some 215, op := Op.move (Operand.tmp 23), type := 4, pos := "laws.go:1772", after := #[{ on := 29, ground := Ground.guard }], guard := some (29, false) }) (v := ?_) rfl (by kernel_rfl) (by kernel_rfl) (by kernel_rfl) np_putGF3 (Or.inl ⟨by rfl, ?_⟩) (by assumption) ?_
        rotate_left
        · (intro wS hSw; go_simp; (try with_reducible rfl))
        (try simp only [Act.put, List.setIfInBounds_toArray, List.set_cons_zero, List.set_cons_succ])
        refine wpAnyH_take (i := 32) (oi := { dst := some 216, op := Op.binOp BinOp.neq 4 (Operand.tmp 214) (Operand.tmp 215) 4, type := 4, pos := "laws.go:1772", after := #[{ on := 30, ground := Ground.data }, { on := 31, ground := Ground.data }, { on := 29, ground := Ground.guard }], guard := some (29, false) }) (v := ?_) rfl (by kernel_rfl) (by kernel_rfl) (by kernel_rfl) np_putGF3 (Or.inl ⟨by rfl, ?_⟩) (by assumption) ?_
        rotate_left
        · (intro wS hSw; go_simp; (try with_reducible rfl))
        (try simp only [Act.put, List.setIfInBounds_toArray, List.set_cons_zero, List.set_cons_succ])
        refine wpAnyH_take (i := 33) (oi := { dst := some 217, op := Op.pick (Operand.tmp 213) (Operand.const (Value.bool true)) (Operand.tmp 216), type := 4, pos := "laws.go:1772", after := #[{ on := 29, ground := Ground.data }, { on := 32, ground := Ground.data }], guard := none }) (v := ?_) rfl (by kernel_rfl) (by kernel_rfl) (by kernel_rfl) np_putGF3 (Or.inl ⟨by rfl, ?_⟩) (by assumption) ?_
        rotate_left
        · (intro wS hSw; go_simp; (try with_reducible rfl))
        (try simp only [Act.put, List.setIfInBounds_toArray, List.set_cons_zero, List.set_cons_succ])
        refine wpAnyH_take (i := 34) (oi := { dst := some 218, op := Op.move (Operand.tmp 217), type := 4, pos := "laws.go:1772", after := #[{ on := 33, ground := Ground.data }, { on := 29, ground := Ground.chain }], guard := none }) (v := ?_) rfl (by kernel_rfl) (by kernel_rfl) (by kernel_rfl) np_putGF3 (Or.inl ⟨by rfl, ?_⟩) (by assumption) ?_
        rotate_left
        · (intro wS hSw; go_simp; (try with_reducible rfl))
        (try simp only [Act.put, List.setIfInBounds_toArray, List.set_cons_zero, List.set_cons_succ])
        refine wpAnyH_take (i := 35) (oi := { dst := some 219, op := Op.move (Operand.tmp 20), type := 3, pos := "laws.go:1772", after := #[{ on := 34, ground := Ground.guard }], guard := some (34, false) }) (v := ?_) rfl (by kernel_rfl) (by kernel_rfl) (by kernel_rfl) np_putGF3 (Or.inl ⟨by rfl, ?_⟩) (by assumption) ?_
        rotate_left
        · (intro wS hSw; go_simp; (try with_reducible rfl))
        (try simp only [Act.put, List.setIfInBounds_toArray, List.set_cons_zero, List.set_cons_succ])
        as_aux_lemma =>
          refine wpAnyH_take (i := 36) (oi := { dst := some 220, op := Op.move (Operand.tmp 22), type := 3, pos := "laws.go:1772", after := #[{ on := 34, ground := Ground.guard }], guard := some (34, false) }) (v := ?_) rfl (by kernel_rfl) (by kernel_rfl) (by kernel_rfl) np_putGF3 (Or.inl ⟨by rfl, ?_⟩) (by assumption) ?_
          rotate_left
          · (intro wS hSw; go_simp; (try with_reducible rfl))
          (try simp only [Act.put, List.setIfInBounds_toArray, List.set_cons_zero, List.set_cons_succ])
          refine wpAnyH_take (i := 37) (oi := { dst := some 221, op := Op.binOp BinOp.neq 3 (Operand.tmp 219) (Operand.tmp 220) 3, type := 4, pos := "laws.go:1772", after := #[{ on := 35, ground := Ground.data }, { on := 36, ground := Ground.data }, { on := 34, ground := Ground.guard }], guard := some (34, false) }) (v := ?_) rfl (by kernel_rfl) (by kernel_rfl) (by kernel_rfl) np_putGF3 (Or.inl ⟨by rfl, ?_⟩) (by assumption) ?_
          rotate_left
          · (intro wS hSw; go_simp; (try with_reducible rfl))
          (try simp only [Act.put, List.setIfInBounds_toArray, List.set_cons_zero, List.set_cons_succ])
          refine wpAnyH_take (i := 38) (oi := { dst := some 222, op := Op.pick (Operand.tmp 218) (Operand.const (Value.bool true)) (Operand.tmp 221), type := 4, pos := "laws.go:1772", after := #[{ on := 34, ground := Ground.data }, { on := 37, ground := Ground.data }], guard := none }) (v := ?_) rfl (by kernel_rfl) (by kernel_rfl) (by kernel_rfl) np_putGF3 (Or.inl ⟨by rfl, ?_⟩) (by assumption) ?_
          rotate_left
          · (intro wS hSw; go_simp; (try with_reducible rfl))
          (try simp only [Act.put, List.setIfInBounds_toArray, List.set_cons_zero, List.set_cons_succ])
          refine wpAnyH_take (i := 39) (oi := { dst := some 223, op := Op.move (Operand.tmp 222), type := 4, pos := "laws.go:1772", after := #[{ on := 38, ground := Ground.data }, { on := 34, ground := Ground.chain }], guard := none }) (v := ?_) rfl (by kernel_rfl) (by kernel_rfl) (by kernel_rfl) np_putGF3 (Or.inl ⟨by rfl, ?_⟩) (by assumption) ?_
          rotate_left
          · (intro wS hSw; go_simp; (try with_reducible rfl))
          (try simp only [Act.put, List.setIfInBounds_toArray, List.set_cons_zero, List.set_cons_succ])
          refine wpAnyH_take (i := 40) (oi := { dst := some 224, op := Op.move (Operand.tmp 26), type := 4, pos := "laws.go:1772", after := #[{ on := 39, ground := Ground.guard }], guard := some (39, false) }) (v := ?_) rfl (by kernel_rfl) (by kernel_rfl) (by kernel_rfl) np_putGF3 (Or.inl ⟨by rfl, ?_⟩) (by assumption) ?_
          rotate_left
          · (intro wS hSw; go_simp; (try with_reducible rfl))
          (try simp only [Act.put, List.setIfInBounds_toArray, List.set_cons_zero, List.set_cons_succ])
          refine wpAnyH_take (i := 41) (oi := { dst := some 225, op := Op.move (Operand.tmp 29), type := 4, pos := "laws.go:1772", after := #[{ on := 39, ground := Ground.guard }], guard := some (39, false) }) (v := ?_) rfl (by kernel_rfl) (by kernel_rfl) (by kernel_rfl) np_putGF3 (Or.inl ⟨by rfl, ?_⟩) (by assumption) ?_
          rotate_left
          · (intro wS hSw; go_simp; (try with_reducible rfl))
          (try simp only [Act.put, List.setIfInBounds_toArray, List.set_cons_zero, List.set_cons_succ])
          refine wpAnyH_take (i := 42) (oi := { dst := some 226, op := Op.binOp BinOp.neq 4 (Operand.tmp 224) (Operand.tmp 225) 4, type := 4, pos := "laws.go:1772", after := #[{ on := 40, ground := Ground.data }, { on := 41, ground := Ground.data }, { on := 39, ground := Ground.guard }], guard := some (39, false) }) (v := ?_) rfl (by kernel_rfl) (by kernel_rfl) (by kernel_rfl) np_putGF3 (Or.inl ⟨by rfl, ?_⟩) (by assumption) ?_
          rotate_left
          · (intro wS hSw; go_simp; (try with_reducible rfl))
          (try simp only [Act.put, List.setIfInBounds_toArray, List.set_cons_zero, List.set_cons_succ])
          refine wpAnyH_take (i := 43) (oi := { dst := some 227, op := Op.pick (Operand.tmp 223) (Operand.const (Value.bool true)) (Operand.tmp 226), type := 4, pos := "laws.go:1772", after := #[{ on := 39, ground := Ground.data }, { on := 42, ground := Ground.data }], guard := none }) (v := ?_) rfl (by kernel_rfl) (by kernel_rfl) (by kernel_rfl) np_putGF3 (Or.inl ⟨by rfl, ?_⟩) (by assumption) ?_
          rotate_left
          · (intro wS hSw; go_simp; (try with_reducible rfl))
          (try simp only [Act.put, List.setIfInBounds_toArray, List.set_cons_zero, List.set_cons_succ])
          refine wpAnyH_take (i := 44) (oi := { dst := some 228, op := Op.move (Operand.tmp 227), type := 4, pos := "laws.go:1772", after := #[{ on := 43, ground := Ground.data }, { on := 39, ground := Ground.chain }], guard := none }) (v := ?_) rfl (by kernel_rfl) (by kernel_rfl) (by kernel_rfl) np_putGF3 (Or.inl ⟨by rfl, ?_⟩) (by assumption) ?_
          rotate_left
          · (intro wS hSw; go_simp; (try with_reducible rfl))
          (try simp only [Act.put, List.setIfInBounds_toArray, List.set_cons_zero, List.set_cons_succ])
          refine wpAnyH_take (i := 45) (oi := { dst := some 229, op := Op.move (Operand.tmp 24), type := 3, pos := "laws.go:1772", after := #[{ on := 44, ground := Ground.guard }], guard := some (44, false) }) (v := ?_) rfl (by kernel_rfl) (by kernel_rfl) (by kernel_rfl) np_putGF3 (Or.inl ⟨by rfl, ?_⟩) (by assumption) ?_
          rotate_left
          · (intro wS hSw; go_simp; (try with_reducible rfl))
          (try simp only [Act.put, List.setIfInBounds_toArray, List.set_cons_zero, List.set_cons_succ])
          refine wpAnyH_take (i := 46) (oi := { dst := some 230, op := Op.move (Operand.tmp 27), type := 3, pos := "laws.go:1772", after := #[{ on := 44, ground := Ground.guard }], guard := some (44, false) }) (v := ?_) rfl (by kernel_rfl) (by kernel_rfl) (by kernel_rfl) np_putGF3 (Or.inl ⟨by rfl, ?_⟩) (by assumption) ?_
          rotate_left
          · (intro wS hSw; go_simp; (try with_reducible rfl))
          (try simp only [Act.put, List.setIfInBounds_toArray, List.set_cons_zero, List.set_cons_succ])
          refine wpAnyH_take (i := 47) (oi := { dst := some 231, op := Op.binOp BinOp.neq 3 (Operand.tmp 229) (Operand.tmp 230) 3, type := 4, pos := "laws.go:1772", after := #[{ on := 45, ground := Ground.data }, { on := 46, ground := Ground.data }, { on := 44, ground := Ground.guard }], guard := some (44, false) }) (v := ?_) rfl (by kernel_rfl) (by kernel_rfl) (by kernel_rfl) np_putGF3 (Or.inl ⟨by rfl, ?_⟩) (by assumption) ?_
          rotate_left
          · (intro wS hSw; go_simp; (try with_reducible rfl))
          (try simp only [Act.put, List.setIfInBounds_toArray, List.set_cons_zero, List.set_cons_succ])
          as_aux_lemma =>
            refine wpAnyH_take (i := 48) (oi := { dst := some 232, op := Op.pick (Operand.tmp 228) (Operand.const (Value.bool true)) (Operand.tmp 231), type := 4, pos := "laws.go:1772", after := #[{ on := 44, ground := Ground.data }, { on := 47, ground := Ground.data }], guard := none }) (v := ?_) rfl (by kernel_rfl) (by kernel_rfl) (by kernel_rfl) np_putGF3 (Or.inl ⟨by rfl, ?_⟩) (by assumption) ?_
            rotate_left
            · (intro wS hSw; go_simp; (try with_reducible rfl))
            (try simp only [Act.put, List.setIfInBounds_toArray, List.set_cons_zero, List.set_cons_succ])
            refine wpAnyH_take (i := 49) (oi := { dst := some 233, op := Op.move (Operand.tmp 232), type := 4, pos := "laws.go:1772", after := #[{ on := 48, ground := Ground.data }, { on := 44, ground := Ground.chain }], guard := none }) (v := ?_) rfl (by kernel_rfl) (by kernel_rfl) (by kernel_rfl) np_putGF3 (Or.inl ⟨by rfl, ?_⟩) (by assumption) ?_
            rotate_left
            · (intro wS hSw; go_simp; (try with_reducible rfl))
            (try simp only [Act.put, List.setIfInBounds_toArray, List.set_cons_zero, List.set_cons_succ])
            refine wpAnyH_take (i := 50) (oi := { dst := some 234, op := Op.move (Operand.tmp 25), type := 3, pos := "laws.go:1772", after := #[{ on := 49, ground := Ground.guard }], guard := some (49, false) }) (v := ?_) rfl (by kernel_rfl) (by kernel_rfl) (by kernel_rfl) np_putGF3 (Or.inl ⟨by rfl, ?_⟩) (by assumption) ?_
            rotate_left
            · (intro wS hSw; go_simp; (try with_reducible rfl))
            (try simp only [Act.put, List.setIfInBounds_toArray, List.set_cons_zero, List.set_cons_succ])
            refine wpAnyH_take (i := 51) (oi := { dst := some 235, op := Op.move (Operand.tmp 28), type := 3, pos := "laws.go:1772", after := #[{ on := 49, ground := Ground.guard }], guard := some (49, false) }) (v := ?_) rfl (by kernel_rfl) (by kernel_rfl) (by kernel_rfl) np_putGF3 (Or.inl ⟨by rfl, ?_⟩) (by assumption) ?_
            rotate_left
            · (intro wS hSw; go_simp; (try with_reducible rfl))
            (try simp only [Act.put, List.setIfInBounds_toArray, List.set_cons_zero, List.set_cons_succ])
            refine wpAnyH_take (i := 52) (oi := { dst := some 236, op := Op.binOp BinOp.neq 3 (Operand.tmp 234) (Operand.tmp 235) 3, type := 4, pos := "laws.go:1772", after := #[{ on := 50, ground := Ground.data }, { on := 51, ground := Ground.data }, { on := 49, ground := Ground.guard }], guard := some (49, false) }) (v := ?_) rfl (by kernel_rfl) (by kernel_rfl) (by kernel_rfl) np_putGF3 (Or.inl ⟨by rfl, ?_⟩) (by assumption) ?_
            rotate_left
            · (intro wS hSw; go_simp; (try with_reducible rfl))
            (try simp only [Act.put, List.setIfInBounds_toArray, List.set_cons_zero, List.set_cons_succ])
            refine wpAnyH_take (i := 53) (oi := { dst := some 237, op := Op.pick (Operand.tmp 233) (Operand.const (Value.bool true)) (Operand.tmp 236), type := 4, pos := "laws.go:1772", after := #[{ on := 49, ground := Ground.data }, { on := 52, ground := Ground.data }], guard := none }) (v := ?_) rfl (by kernel_rfl) (by kernel_rfl) (by kernel_rfl) np_putGF3 (Or.inl ⟨by rfl, ?_⟩) (by assumption) ?_
            rotate_left
            · (intro wS hSw; go_simp; (try with_reducible rfl))
            (try simp only [Act.put, List.setIfInBounds_toArray, List.set_cons_zero, List.set_cons_succ])
            refine wpAnyH_take (i := 54) (oi := { dst := some 238, op := Op.move (Operand.tmp 237), type := 4, pos := "laws.go:1772", after := #[{ on := 53, ground := Ground.data }, { on := 49, ground := Ground.chain }], guard := none }) (v := ?_) rfl (by kernel_rfl) (by kernel_rfl) (by kernel_rfl) np_putGF3 (Or.inl ⟨by rfl, ?_⟩) (by assumption) ?_
            rotate_left
            · (intro wS hSw; go_simp; (try with_reducible rfl))
            (try simp only [Act.put, List.setIfInBounds_toArray, List.set_cons_zero, List.set_cons_succ])
            refine wpAnyH_take (i := 55) (oi := { dst := some 239, op := Op.move (Operand.tmp 32), type := 4, pos := "laws.go:1772", after := #[{ on := 54, ground := Ground.guard }], guard := some (54, false) }) (v := ?_) rfl (by kernel_rfl) (by kernel_rfl) (by kernel_rfl) np_putGF3 (Or.inl ⟨by rfl, ?_⟩) (by assumption) ?_
            rotate_left
            · (intro wS hSw; go_simp; (try with_reducible rfl))
            (try simp only [Act.put, List.setIfInBounds_toArray, List.set_cons_zero, List.set_cons_succ])
            refine wpAnyH_take (i := 56) (oi := { dst := some 240, op := Op.move (Operand.tmp 35), type := 4, pos := "laws.go:1772", after := #[{ on := 54, ground := Ground.guard }], guard := some (54, false) }) (v := ?_) rfl (by kernel_rfl) (by kernel_rfl) (by kernel_rfl) np_putGF3 (Or.inl ⟨by rfl, ?_⟩) (by assumption) ?_
            rotate_left
            · (intro wS hSw; go_simp; (try with_reducible rfl))
            (try simp only [Act.put, List.setIfInBounds_toArray, List.set_cons_zero, List.set_cons_succ])
            refine wpAnyH_take (i := 57) (oi := { dst := some 241, op := Op.binOp BinOp.neq 4 (Operand.tmp 239) (Operand.tmp 240) 4, type := 4, pos := "laws.go:1772", after := #[{ on := 55, ground := Ground.data }, { on := 56, ground := Ground.data }, { on := 54, ground := Ground.guard }], guard := some (54, false) }) (v := ?_) rfl (by kernel_rfl) (by kernel_rfl) (by kernel_rfl) np_putGF3 (Or.inl ⟨by rfl, ?_⟩) (by assumption) ?_
            rotate_left
            · (intro wS hSw; go_simp; (try with_reducible rfl))
            (try simp only [Act.put, List.setIfInBounds_toArray, List.set_cons_zero, List.set_cons_succ])
            refine wpAnyH_take (i := 58) (oi := { dst := some 242, op := Op.pick (Operand.tmp 238) (Operand.const (Value.bool true)) (Operand.tmp 241), type := 4, pos := "laws.go:1772", after := #[{ on := 54, ground := Ground.data }, { on := 57, ground := Ground.data }], guard := none }) (v := ?_) rfl (by kernel_rfl) (by kernel_rfl) (by kernel_rfl) np_putGF3 (Or.inl ⟨by rfl, ?_⟩) (by assumption) ?_
            rotate_left
            · (intro wS hSw; go_simp; (try with_reducible rfl))
            (try simp only [Act.put, List.setIfInBounds_toArray, List.set_cons_zero, List.set_cons_succ])
            refine wpAnyH_take (i := 59) (oi := { dst := some 243, op := Op.move (Operand.tmp 242), type := 4, pos := "laws.go:1772", after := #[{ on := 58, ground := Ground.data }, { on := 54, ground := Ground.chain }], guard := none }) (v := ?_) rfl (by kernel_rfl) (by kernel_rfl) (by kernel_rfl) np_putGF3 (Or.inl ⟨by rfl, ?_⟩) (by assumption) ?_
            rotate_left
            · (intro wS hSw; go_simp; (try with_reducible rfl))
            (try simp only [Act.put, List.setIfInBounds_toArray, List.set_cons_zero, List.set_cons_succ])
            as_aux_lemma =>
              refine wpAnyH_take (i := 60) (oi := { dst := some 244, op := Op.move (Operand.tmp 30), type := 3, pos := "laws.go:1772", after := #[{ on := 59, ground := Ground.guard }], guard := some (59, false) }) (v := ?_) rfl (by kernel_rfl) (by kernel_rfl) (by kernel_rfl) np_putGF3 (Or.inl ⟨by rfl, ?_⟩) (by assumption) ?_
              rotate_left
              · (intro wS hSw; go_simp; (try with_reducible rfl))
              (try simp only [Act.put, List.setIfInBounds_toArray, List.set_cons_zero, List.set_cons_succ])
              refine wpAnyH_take (i := 61) (oi := { dst := some 245, op := Op.move (Operand.tmp 33), type := 3, pos := "laws.go:1772", after := #[{ on := 59, ground := Ground.guard }], guard := some (59, false) }) (v := ?_) rfl (by kernel_rfl) (by kernel_rfl) (by kernel_rfl) np_putGF3 (Or.inl ⟨by rfl, ?_⟩) (by assumption) ?_
              rotate_left
              · (intro wS hSw; go_simp; (try with_reducible rfl))
              (try simp only [Act.put, List.setIfInBounds_toArray, List.set_cons_zero, List.set_cons_succ])
              refine wpAnyH_take (i := 62) (oi := { dst := some 246, op := Op.binOp BinOp.neq 3 (Operand.tmp 244) (Operand.tmp 245) 3, type := 4, pos := "laws.go:1772", after := #[{ on := 60, ground := Ground.data }, { on := 61, ground := Ground.data }, { on := 59, ground := Ground.guard }], guard := some (59, false) }) (v := ?_) rfl (by kernel_rfl) (by kernel_rfl) (by kernel_rfl) np_putGF3 (Or.inl ⟨by rfl, ?_⟩) (by assumption) ?_
              rotate_left
              · (intro wS hSw; go_simp; (try with_reducible rfl))
              (try simp only [Act.put, List.setIfInBounds_toArray, List.set_cons_zero, List.set_cons_succ])
              refine wpAnyH_take (i := 63) (oi := { dst := some 247, op := Op.pick (Operand.tmp 243) (Operand.const (Value.bool true)) (Operand.tmp 246), type := 4, pos := "laws.go:1772", after := #[{ on := 59, ground := Ground.data }, { on := 62, ground := Ground.data }], guard := none }) (v := ?_) rfl (by kernel_rfl) (by kernel_rfl) (by kernel_rfl) np_putGF3 (Or.inl ⟨by rfl, ?_⟩) (by assumption) ?_
              rotate_left
              · (intro wS hSw; go_simp; (try with_reducible rfl))
              (try simp only [Act.put, List.setIfInBounds_toArray, List.set_cons_zero, List.set_cons_succ])
              refine wpAnyH_take (i := 64) (oi := { dst := some 248, op := Op.move (Operand.tmp 247), type := 4, pos := "laws.go:1772", after := #[{ on := 63, ground := Ground.data }, { on := 59, ground := Ground.chain }], guard := none }) (v := ?_) rfl (by kernel_rfl) (by kernel_rfl) (by kernel_rfl) np_putGF3 (Or.inl ⟨by rfl, ?_⟩) (by assumption) ?_
              rotate_left
              · (intro wS hSw; go_simp; (try with_reducible rfl))
              (try simp only [Act.put, List.setIfInBounds_toArray, List.set_cons_zero, List.set_cons_succ])
              refine wpAnyH_take (i := 65) (oi := { dst := some 249, op := Op.move (Operand.tmp 31), type := 3, pos := "laws.go:1772", after := #[{ on := 64, ground := Ground.guard }], guard := some (64, false) }) (v := ?_) rfl (by kernel_rfl) (by kernel_rfl) (by kernel_rfl) np_putGF3 (Or.inl ⟨by rfl, ?_⟩) (by assumption) ?_
              rotate_left
              · (intro wS hSw; go_simp; (try with_reducible rfl))
              (try simp only [Act.put, List.setIfInBounds_toArray, List.set_cons_zero, List.set_cons_succ])
              refine wpAnyH_take (i := 66) (oi := { dst := some 250, op := Op.move (Operand.tmp 34), type := 3, pos := "laws.go:1772", after := #[{ on := 64, ground := Ground.guard }], guard := some (64, false) }) (v := ?_) rfl (by kernel_rfl) (by kernel_rfl) (by kernel_rfl) np_putGF3 (Or.inl ⟨by rfl, ?_⟩) (by assumption) ?_
              rotate_left
              · (intro wS hSw; go_simp; (try with_reducible rfl))
              (try simp only [Act.put, List.setIfInBounds_toArray, List.set_cons_zero, List.set_cons_succ])
              refine wpAnyH_take (i := 67) (oi := { dst := some 251, op := Op.binOp BinOp.neq 3 (Operand.tmp 249) (Operand.tmp 250) 3, type := 4, pos := "laws.go:1772", after := #[{ on := 65, ground := Ground.data }, { on := 66, ground := Ground.data }, { on := 64, ground := Ground.guard }], guard := some (64, false) }) (v := ?_) rfl (by kernel_rfl) (by kernel_rfl) (by kernel_rfl) np_putGF3 (Or.inl ⟨by rfl, ?_⟩) (by assumption) ?_
              rotate_left
              · (intro wS hSw; go_simp; (try with_reducible rfl))
              (try simp only [Act.put, List.setIfInBounds_toArray, List.set_cons_zero, List.set_cons_succ])
              refine wpAnyH_take (i := 68) (oi := { dst := some 252, op := Op.pick (Operand.tmp 248) (Operand.const (Value.bool true)) (Operand.tmp 251), type := 4, pos := "laws.go:1772", after := #[{ on := 64, ground := Ground.data }, { on := 67, ground := Ground.data }], guard := none }) (v := ?_) rfl (by kernel_rfl) (by kernel_rfl) (by kernel_rfl) np_putGF3 (Or.inl ⟨by rfl, ?_⟩) (by assumption) ?_
              rotate_left
              · (intro wS hSw; go_simp; (try with_reducible rfl))
              (try simp only [Act.put, List.setIfInBounds_toArray, List.set_cons_zero, List.set_cons_succ])
              refine wpAnyH_take (i := 69) (oi := { dst := some 253, op := Op.move (Operand.tmp 252), type := 4, pos := "laws.go:1772", after := #[{ on := 68, ground := Ground.data }, { on := 64, ground := Ground.chain }], guard := none }) (v := ?_) rfl (by kernel_rfl) (by kernel_rfl) (by kernel_rfl) np_putGF3 (Or.inl ⟨by rfl, ?_⟩) (by assumption) ?_
              rotate_left
              · (intro wS hSw; go_simp; (try with_reducible rfl))
              (try simp only [Act.put, List.setIfInBounds_toArray, List.set_cons_zero, List.set_cons_succ])
              refine wpAnyH_take (i := 70) (oi := { dst := some 254, op := Op.move (Operand.tmp 37), type := 4, pos := "laws.go:1772", after := #[{ on := 69, ground := Ground.guard }], guard := some (69, false) }) (v := ?_) rfl (by kernel_rfl) (by kernel_rfl) (by kernel_rfl) np_putGF3 (Or.inl ⟨by rfl, ?_⟩) (by assumption) ?_
              rotate_left
              · (intro wS hSw; go_simp; (try with_reducible rfl))
              (try simp only [Act.put, List.setIfInBounds_toArray, List.set_cons_zero, List.set_cons_succ])
              refine wpAnyH_take (i := 71) (oi := { dst := some 255, op := Op.move (Operand.tmp 39), type := 4, pos := "laws.go:1772", after := #[{ on := 69, ground := Ground.guard }], guard := some (69, false) }) (v := ?_) rfl (by kernel_rfl) (by kernel_rfl) (by kernel_rfl) np_putGF3 (Or.inl ⟨by rfl, ?_⟩) (by assumption) ?_
              rotate_left
              · (intro wS hSw; go_simp; (try with_reducible rfl))
              (try simp only [Act.put, List.setIfInBounds_toArray, List.set_cons_zero, List.set_cons_succ])
              as_aux_lemma =>
                refine wpAnyH_take (i := 72) (oi := { dst := some 256, op := Op.binOp BinOp.neq 4 (Operand.tmp 254) (Operand.tmp 255) 4, type := 4, pos := "laws.go:1772", after := #[{ on := 70, ground := Ground.data }, { on := 71, ground := Ground.data }, { on := 69, ground := Ground.guard }], guard := some (69, false) }) (v := ?_) rfl (by kernel_rfl) (by kernel_rfl) (by kernel_rfl) np_putGF3 (Or.inl ⟨by rfl, ?_⟩) (by assumption) ?_
                rotate_left
                · (intro wS hSw; go_simp; (try with_reducible rfl))
                (try simp only [Act.put, List.setIfInBounds_toArray, List.set_cons_zero, List.set_cons_succ])
                refine wpAnyH_take (i := 73) (oi := { dst := some 257, op := Op.pick (Operand.tmp 253) (Operand.const (Value.bool true)) (Operand.tmp 256), type := 4, pos := "laws.go:1772", after := #[{ on := 69, ground := Ground.data }, { on := 72, ground := Ground.data }], guard := none }) (v := ?_) rfl (by kernel_rfl) (by kernel_rfl) (by kernel_rfl) np_putGF3 (Or.inl ⟨by rfl, ?_⟩) (by assumption) ?_
                rotate_left
                · (intro wS hSw; go_simp; (try with_reducible rfl))
                (try simp only [Act.put, List.setIfInBounds_toArray, List.set_cons_zero, List.set_cons_succ])
                refine wpAnyH_take (i := 74) (oi := { dst := some 258, op := Op.move (Operand.tmp 257), type := 4, pos := "laws.go:1772", after := #[{ on := 73, ground := Ground.data }, { on := 69, ground := Ground.chain }], guard := none }) (v := ?_) rfl (by kernel_rfl) (by kernel_rfl) (by kernel_rfl) np_putGF3 (Or.inl ⟨by rfl, ?_⟩) (by assumption) ?_
                rotate_left
                · (intro wS hSw; go_simp; (try with_reducible rfl))
                (try simp only [Act.put, List.setIfInBounds_toArray, List.set_cons_zero, List.set_cons_succ])
                refine wpAnyH_take (i := 75) (oi := { dst := some 259, op := Op.move (Operand.tmp 36), type := 3, pos := "laws.go:1772", after := #[{ on := 74, ground := Ground.guard }], guard := some (74, false) }) (v := ?_) rfl (by kernel_rfl) (by kernel_rfl) (by kernel_rfl) np_putGF3 (Or.inl ⟨by rfl, ?_⟩) (by assumption) ?_
                rotate_left
                · (intro wS hSw; go_simp; (try with_reducible rfl))
                (try simp only [Act.put, List.setIfInBounds_toArray, List.set_cons_zero, List.set_cons_succ])
                refine wpAnyH_take (i := 76) (oi := { dst := some 260, op := Op.move (Operand.tmp 38), type := 3, pos := "laws.go:1772", after := #[{ on := 74, ground := Ground.guard }], guard := some (74, false) }) (v := ?_) rfl (by kernel_rfl) (by kernel_rfl) (by kernel_rfl) np_putGF3 (Or.inl ⟨by rfl, ?_⟩) (by assumption) ?_
                rotate_left
                · (intro wS hSw; go_simp; (try with_reducible rfl))
                (try simp only [Act.put, List.setIfInBounds_toArray, List.set_cons_zero, List.set_cons_succ])
                refine wpAnyH_take (i := 77) (oi := { dst := some 261, op := Op.binOp BinOp.neq 3 (Operand.tmp 259) (Operand.tmp 260) 3, type := 4, pos := "laws.go:1772", after := #[{ on := 75, ground := Ground.data }, { on := 76, ground := Ground.data }, { on := 74, ground := Ground.guard }], guard := some (74, false) }) (v := ?_) rfl (by kernel_rfl) (by kernel_rfl) (by kernel_rfl) np_putGF3 (Or.inl ⟨by rfl, ?_⟩) (by assumption) ?_
                rotate_left
                · (intro wS hSw; go_simp; (try with_reducible rfl))
                (try simp only [Act.put, List.setIfInBounds_toArray, List.set_cons_zero, List.set_cons_succ])
                refine wpAnyH_take (i := 78) (oi := { dst := some 262, op := Op.pick (Operand.tmp 258) (Operand.const (Value.bool true)) (Operand.tmp 261), type := 4, pos := "laws.go:1772", after := #[{ on := 74, ground := Ground.data }, { on := 77, ground := Ground.data }], guard := none }) (v := ?_) rfl (by kernel_rfl) (by kernel_rfl) (by kernel_rfl) np_putGF3 (Or.inl ⟨by rfl, ?_⟩) (by assumption) ?_
                rotate_left
                · (intro wS hSw; go_simp; (try with_reducible rfl))
                (try simp only [Act.put, List.setIfInBounds_toArray, List.set_cons_zero, List.set_cons_succ])
                refine wpAnyH_take (i := 79) (oi := { dst := some 263, op := Op.move (Operand.tmp 262), type := 4, pos := "laws.go:1772", after := #[{ on := 78, ground := Ground.data }, { on := 74, ground := Ground.chain }], guard := none }) (v := ?_) rfl (by kernel_rfl) (by kernel_rfl) (by kernel_rfl) np_putGF3 (Or.inl ⟨by rfl, ?_⟩) (by assumption) ?_
                rotate_left
                · (intro wS hSw; go_simp; (try with_reducible rfl))
                (try simp only [Act.put, List.setIfInBounds_toArray, List.set_cons_zero, List.set_cons_succ])
                refine wpAnyH_take (i := 80) (oi := { dst := some 264, op := Op.move (Operand.tmp 17), type := 4, pos := "laws.go:1772", after := #[{ on := 79, ground := Ground.guard }], guard := some (79, false) }) (v := ?_) rfl (by kernel_rfl) (by kernel_rfl) (by kernel_rfl) np_putGF3 (Or.inl ⟨by rfl, ?_⟩) (by assumption) ?_
                rotate_left
                · (intro wS hSw; go_simp; (try with_reducible rfl))
                (try simp only [Act.put, List.setIfInBounds_toArray, List.set_cons_zero, List.set_cons_succ])
                refine wpAnyH_take (i := 81) (oi := { dst := some 265, op := Op.move (Operand.tmp 9), type := 4, pos := "laws.go:1772", after := #[{ on := 79, ground := Ground.guard }], guard := some (79, false) }) (v := ?_) rfl (by kernel_rfl) (by kernel_rfl) (by kernel_rfl) np_putGF3 (Or.inl ⟨by rfl, ?_⟩) (by assumption) ?_
                rotate_left
                · (intro wS hSw; go_simp; (try with_reducible rfl))
                (try simp only [Act.put, List.setIfInBounds_toArray, List.set_cons_zero, List.set_cons_succ])
                refine wpAnyH_take (i := 82) (oi := { dst := some 266, op := Op.binOp BinOp.neq 4 (Operand.tmp 264) (Operand.tmp 265) 4, type := 4, pos := "laws.go:1772", after := #[{ on := 80, ground := Ground.data }, { on := 81, ground := Ground.data }, { on := 79, ground := Ground.guard }], guard := some (79, false) }) (v := ?_) rfl (by kernel_rfl) (by kernel_rfl) (by kernel_rfl) np_putGF3 (Or.inl ⟨by rfl, ?_⟩) (by assumption) ?_
                rotate_left
                · (intro wS hSw; go_simp; (try with_reducible rfl))
                (try simp only [Act.put, List.setIfInBounds_toArray, List.set_cons_zero, List.set_cons_succ])
                refine wpAnyH_take (i := 83) (oi := { dst := some 267, op := Op.pick (Operand.tmp 263) (Operand.const (Value.bool true)) (Operand.tmp 266), type := 4, pos := "laws.go:1772", after := #[{ on := 79, ground := Ground.data }, { on := 82, ground := Ground.data }], guard := none }) (v := ?_) rfl (by kernel_rfl) (by kernel_rfl) (by kernel_rfl) np_putGF3 (Or.inl ⟨by rfl, ?_⟩) (by assumption) ?_
                rotate_left
                · (intro wS hSw; go_simp; (try with_reducible rfl))
                (try simp only [Act.put, List.setIfInBounds_toArray, List.set_cons_zero, List.set_cons_succ])
                as_aux_lemma =>
                  refine wpAnyH_take (i := 84) (oi := { dst := some 268, op := Op.move (Operand.tmp 267), type := 4, pos := "laws.go:1772", after := #[{ on := 83, ground := Ground.data }, { on := 79, ground := Ground.chain }], guard := none }) (v := ?_) rfl (by kernel_rfl) (by kernel_rfl) (by kernel_rfl) np_putGF3 (Or.inl ⟨by rfl, ?_⟩) (by assumption) ?_
                  rotate_left
                  · (intro wS hSw; go_simp; (try with_reducible rfl))
                  (try simp only [Act.put, List.setIfInBounds_toArray, List.set_cons_zero, List.set_cons_succ])
                  refine wpAnyH_take (i := 85) (oi := { dst := some 269, op := Op.move (Operand.tmp 21), type := 4, pos := "laws.go:1772", after := #[{ on := 84, ground := Ground.guard }], guard := some (84, false) }) (v := ?_) rfl (by kernel_rfl) (by kernel_rfl) (by kernel_rfl) np_putGF3 (Or.inl ⟨by rfl, ?_⟩) (by assumption) ?_
                  rotate_left
                  · (intro wS hSw; go_simp; (try with_reducible rfl))
                  (try simp only [Act.put, List.setIfInBounds_toArray, List.set_cons_zero, List.set_cons_succ])
                  refine wpAnyH_take (i := 86) (oi := { dst := some 270, op := Op.move (Operand.tmp 9), type := 4, pos := "laws.go:1772", after := #[{ on := 84, ground := Ground.guard }], guard := some (84, false) }) (v := ?_) rfl (by kernel_rfl) (by kernel_rfl) (by kernel_rfl) np_putGF3 (Or.inl ⟨by rfl, ?_⟩) (by assumption) ?_
                  rotate_left
                  · (intro wS hSw; go_simp; (try with_reducible rfl))
                  (try simp only [Act.put, List.setIfInBounds_toArray, List.set_cons_zero, List.set_cons_succ])
                  refine wpAnyH_take (i := 87) (oi := { dst := some 271, op := Op.binOp BinOp.neq 4 (Operand.tmp 269) (Operand.tmp 270) 4, type := 4, pos := "laws.go:1772", after := #[{ on := 85, ground := Ground.data }, { on := 86, ground := Ground.data }, { on := 84, ground := Ground.guard }], guard := some (84, false) }) (v := ?_) rfl (by kernel_rfl) (by kernel_rfl) (by kernel_rfl) np_putGF3 (Or.inl ⟨by rfl, ?_⟩) (by assumption) ?_
                  rotate_left
                  · (intro wS hSw; go_simp; (try with_reducible rfl))
                  (try simp only [Act.put, List.setIfInBounds_toArray, List.set_cons_zero, List.set_cons_succ])
                  refine wpAnyH_take (i := 88) (oi := { dst := some 272, op := Op.pick (Operand.tmp 268) (Operand.const (Value.bool true)) (Operand.tmp 271), type := 4, pos := "laws.go:1772", after := #[{ on := 84, ground := Ground.data }, { on := 87, ground := Ground.data }], guard := none }) (v := ?_) rfl (by kernel_rfl) (by kernel_rfl) (by kernel_rfl) np_putGF3 (Or.inl ⟨by rfl, ?_⟩) (by assumption) ?_
                  rotate_left
                  · (intro wS hSw; go_simp; (try with_reducible rfl))
                  (try simp only [Act.put, List.setIfInBounds_toArray, List.set_cons_zero, List.set_cons_succ])
                  refine wpAnyH_take (i := 89) (oi := { dst := some 273, op := Op.move (Operand.tmp 272), type := 4, pos := "laws.go:1772", after := #[{ on := 88, ground := Ground.data }, { on := 84, ground := Ground.chain }], guard := none }) (v := ?_) rfl (by kernel_rfl) (by kernel_rfl) (by kernel_rfl) np_putGF3 (Or.inl ⟨by rfl, ?_⟩) (by assumption) ?_
                  rotate_left
                  · (intro wS hSw; go_simp; (try with_reducible rfl))
                  (try simp only [Act.put, List.setIfInBounds_toArray, List.set_cons_zero, List.set_cons_succ])
                  refine wpAnyH_take (i := 90) (oi := { dst := some 274, op := Op.move (Operand.tmp 26), type := 4, pos := "laws.go:1772", after := #[{ on := 89, ground := Ground.guard }], guard := some (89, false) }) (v := ?_) rfl (by kernel_rfl) (by kernel_rfl) (by kernel_rfl) np_putGF3 (Or.inl ⟨by rfl, ?_⟩) (by assumption) ?_
                  rotate_left
                  · (intro wS hSw; go_simp; (try with_reducible rfl))
                  (try simp only [Act.put, List.setIfInBounds_toArray, List.set_cons_zero, List.set_cons_succ])
                  refine wpAnyH_take (i := 91) (oi := { dst := some 275, op := Op.move (Operand.tmp 9), type := 4, pos := "laws.go:1772", after := #[{ on := 89, ground := Ground.guard }], guard := some (89, false) }) (v := ?_) rfl (by kernel_rfl) (by kernel_rfl) (by kernel_rfl) np_putGF3 (Or.inl ⟨by rfl, ?_⟩) (by assumption) ?_
                  rotate_left
                  · (intro wS hSw; go_simp; (try with_reducible rfl))
                  (try simp only [Act.put, List.setIfInBounds_toArray, List.set_cons_zero, List.set_cons_succ])
                  refine wpAnyH_take (i := 92) (oi := { dst := some 276, op := Op.binOp BinOp.neq 4 (Operand.tmp 274) (Operand.tmp 275) 4, type := 4, pos := "laws.go:1772", after := #[{ on := 90, ground := Ground.data }, { on := 91, ground := Ground.data }, { on := 89, ground := Ground.guard }], guard := some (89, false) }) (v := ?_) rfl (by kernel_rfl) (by kernel_rfl) (by kernel_rfl) np_putGF3 (Or.inl ⟨by rfl, ?_⟩) (by assumption) ?_
                  rotate_left
                  · (intro wS hSw; go_simp; (try with_reducible rfl))
                  (try simp only [Act.put, List.setIfInBounds_toArray, List.set_cons_zero, List.set_cons_succ])
                  refine wpAnyH_take (i := 93) (oi := { dst := some 277, op := Op.pick (Operand.tmp 273) (Operand.const (Value.bool true)) (Operand.tmp 276), type := 4, pos := "laws.go:1772", after := #[{ on := 89, ground := Ground.data }, { on := 92, ground := Ground.data }], guard := none }) (v := ?_) rfl (by kernel_rfl) (by kernel_rfl) (by kernel_rfl) np_putGF3 (Or.inl ⟨by rfl, ?_⟩) (by assumption) ?_
                  rotate_left
                  · (intro wS hSw; go_simp; (try with_reducible rfl))
                  (try simp only [Act.put, List.setIfInBounds_toArray, List.set_cons_zero, List.set_cons_succ])
                  refine wpAnyH_take (i := 94) (oi := { dst := some 278, op := Op.move (Operand.tmp 277), type := 4, pos := "laws.go:1772", after := #[{ on := 93, ground := Ground.data }, { on := 89, ground := Ground.chain }], guard := none }) (v := ?_) rfl (by kernel_rfl) (by kernel_rfl) (by kernel_rfl) np_putGF3 (Or.inl ⟨by rfl, ?_⟩) (by assumption) ?_
                  rotate_left
                  · (intro wS hSw; go_simp; (try with_reducible rfl))
                  (try simp only [Act.put, List.setIfInBounds_toArray, List.set_cons_zero, List.set_cons_succ])
                  refine wpAnyH_take (i := 95) (oi := { dst := some 279, op := Op.move (Operand.tmp 32), type := 4, pos := "laws.go:1772", after := #[{ on := 94, ground := Ground.guard }], guard := some (94, false) }) (v := ?_) rfl (by kernel_rfl) (by kernel_rfl) (by kernel_rfl) np_putGF3 (Or.inl ⟨by rfl, ?_⟩) (by assumption) ?_
                  rotate_left
                  · (intro wS hSw; go_simp; (try with_reducible rfl))
                  (try simp only [Act.put, List.setIfInBounds_toArray, List.set_cons_zero, List.set_cons_succ])
                  as_aux_lemma =>
                    refine wpAnyH_take (i := 96) (oi := { dst := some 280, op := Op.move (Operand.tmp 9), type := 4, pos := "laws.go:1772", after := #[{ on := 94, ground := Ground.guard }], guard := some (94, false) }) (v := ?_) rfl (by kernel_rfl) (by kernel_rfl) (by kernel_rfl) np_putGF3 (Or.inl ⟨by rfl, ?_⟩) (by assumption) ?_
                    rotate_left
                    · (intro wS hSw; go_simp; (try with_reducible rfl))
                    (try simp only [Act.put, List.setIfInBounds_toArray, List.set_cons_zero, List.set_cons_succ])
                    refine wpAnyH_take (i := 97) (oi := { dst := some 281, op := Op.binOp BinOp.neq 4 (Operand.tmp 279) (Operand.tmp 280) 4, type := 4, pos := "laws.go:1772", after := #[{ on := 95, ground := Ground.data }, { on := 96, ground := Ground.data }, { on := 94, ground := Ground.guard }], guard := some (94, false) }) (v := ?_) rfl (by kernel_rfl) (by kernel_rfl) (by kernel_rfl) np_putGF3 (Or.inl ⟨by rfl, ?_⟩) (by assumption) ?_
                    rotate_left
                    · (intro wS hSw; go_simp; (try with_reducible rfl))
                    (try simp only [Act.put, List.setIfInBounds_toArray, List.set_cons_zero, List.set_cons_succ])
                    refine wpAnyH_take (i := 98) (oi := { dst := some 282, op := Op.pick (Operand.tmp 278) (Operand.const (Value.bool true)) (Operand.tmp 281), type := 4, pos := "laws.go:1772", after := #[{ on := 94, ground := Ground.data }, { on := 97, ground := Ground.data }], guard := none }) (v := ?_) rfl (by kernel_rfl) (by kernel_rfl) (by kernel_rfl) np_putGF3 (Or.inl ⟨by rfl, ?_⟩) (by assumption) ?_
                    rotate_left
                    · (intro wS hSw; go_simp; (try with_reducible rfl))
                    (try simp only [Act.put, List.setIfInBounds_toArray, List.set_cons_zero, List.set_cons_succ])
                    refine wpAnyH_take (i := 99) (oi := { dst := some 283, op := Op.move (Operand.tmp 282), type := 4, pos := "laws.go:1772", after := #[{ on := 98, ground := Ground.data }, { on := 94, ground := Ground.chain }], guard := none }) (v := ?_) rfl (by kernel_rfl) (by kernel_rfl) (by kernel_rfl) np_putGF3 (Or.inl ⟨by rfl, ?_⟩) (by assumption) ?_
                    rotate_left
                    · (intro wS hSw; go_simp; (try with_reducible rfl))
                    (try simp only [Act.put, List.setIfInBounds_toArray, List.set_cons_zero, List.set_cons_succ])
                    as_aux_lemma =>
                      obtain rfl : g = true := HBG.out rfl
                      clear HBG
                      cases se
                      · as_aux_lemma =>
                          refine wpAnyH_take (i := 100) (oi := { dst := some 284, op := Op.move (Operand.tmp 13), type := 4, pos := "laws.go:1772", after := #[{ on := 99, ground := Ground.guard }], guard := some (99, false) }) (v := ?_) rfl (by kernel_rfl) (by kernel_rfl) (by kernel_rfl) np_putGF3 (Or.inl ⟨by rfl, ?_⟩) (by assumption) ?_
                          rotate_left
                          · (intro wS hSw; go_simp; (try with_reducible rfl))
                          (try simp only [Act.put, List.setIfInBounds_toArray, List.set_cons_zero, List.set_cons_succ])
                          refine wpAnyH_take (i := 101) (oi := { dst := some 285, op := Op.move (Operand.tmp 284), type := 4, pos := "laws.go:1772", after := #[{ on := 100, ground := Ground.data }, { on := 99, ground := Ground.chain }, { on := 99, ground := Ground.guard }], guard := some (99, false) }) (v := ?_) rfl (by kernel_rfl) (by kernel_rfl) (by kernel_rfl) np_putGF3 (Or.inl ⟨by rfl, ?_⟩) (by assumption) ?_
                          rotate_left
                          · (intro wS hSw; go_simp; (try with_reducible rfl))
                          (try simp only [Act.put, List.setIfInBounds_toArray, List.set_cons_zero, List.set_cons_succ])
                          refine wpAnyH_take (i := 102) (oi := { dst := some 286, op := Op.move (Operand.tmp 9), type := 4, pos := "laws.go:1772", after := #[{ on := 101, ground := Ground.guard }], guard := some (101, true) }) (v := ?_) rfl (by kernel_rfl) (by kernel_rfl) (by kernel_rfl) np_putGF3 (Or.inl ⟨by rfl, ?_⟩) (by assumption) ?_
                          rotate_left
                          · (intro wS hSw; go_simp; (try with_reducible rfl))
                          (try simp only [Act.put, List.setIfInBounds_toArray, List.set_cons_zero, List.set_cons_succ])
                          refine wpAnyH_take (i := 103) (oi := { dst := some 287, op := Op.unOp UnOp.not 4 (Operand.tmp 286), type := 4, pos := "laws.go:1772", after := #[{ on := 102, ground := Ground.data }, { on := 101, ground := Ground.guard }], guard := some (101, true) }) (v := ?_) rfl (by kernel_rfl) (by kernel_rfl) (by kernel_rfl) np_putGF3 (Or.inl ⟨by rfl, ?_⟩) (by assumption) ?_
                          rotate_left
                          · (intro wS hSw; go_simp; (try with_reducible rfl))
                          (try simp only [Act.put, List.setIfInBounds_toArray, List.set_cons_zero, List.set_cons_succ])
                          refine wpAnyH_take (i := 104) (oi := { dst := some 288, op := Op.pick (Operand.tmp 285) (Operand.tmp 287) (Operand.const (Value.bool false)), type := 4, pos := "laws.go:1772", after := #[{ on := 101, ground := Ground.data }, { on := 103, ground := Ground.data }, { on := 99, ground := Ground.guard }], guard := some (99, false) }) (v := ?_) rfl (by kernel_rfl) (by kernel_rfl) (by kernel_rfl) np_putGF3 (Or.inl ⟨by rfl, ?_⟩) (by assumption) ?_
                          rotate_left
                          · (intro wS hSw; go_simp; (try with_reducible rfl))
                          (try simp only [Act.put, List.setIfInBounds_toArray, List.set_cons_zero, List.set_cons_succ])
                          refine wpAnyH_take (i := 105) (oi := { dst := some 289, op := Op.pick (Operand.tmp 283) (Operand.const (Value.bool true)) (Operand.tmp 288), type := 4, pos := "laws.go:1772", after := #[{ on := 99, ground := Ground.data }, { on := 104, ground := Ground.data }], guard := none }) (v := ?_) rfl (by kernel_rfl) (by kernel_rfl) (by kernel_rfl) np_putGF3 (Or.inl ⟨by rfl, ?_⟩) (by assumption) ?_
                          rotate_left
                          · (intro wS hSw; go_simp; (try with_reducible rfl))
                          (try simp only [Act.put, List.setIfInBounds_toArray, List.set_cons_zero, List.set_cons_succ])
                          refine wpAnyH_take (i := 106) (oi := { dst := some 290, op := Op.move (Operand.tmp 289), type := 4, pos := "laws.go:1772", after := #[{ on := 105, ground := Ground.data }, { on := 101, ground := Ground.chain }], guard := none }) (v := ?_) rfl (by kernel_rfl) (by kernel_rfl) (by kernel_rfl) np_putGF3 (Or.inl ⟨by rfl, ?_⟩) (by assumption) ?_
                          rotate_left
                          · (intro wS hSw; go_simp; (try with_reducible rfl))
                          (try simp only [Act.put, List.setIfInBounds_toArray, List.set_cons_zero, List.set_cons_succ])
                          refine wpAnyH_take (i := 107) (oi := { dst := some 291, op := Op.move (Operand.tmp 37), type := 4, pos := "laws.go:1772", after := #[{ on := 106, ground := Ground.guard }], guard := some (106, false) }) (v := ?_) rfl (by kernel_rfl) (by kernel_rfl) (by kernel_rfl) np_putGF3 (Or.inl ⟨by rfl, ?_⟩) (by assumption) ?_
                          rotate_left
                          · (intro wS hSw; go_simp; (try with_reducible rfl))
                          (try simp only [Act.put, List.setIfInBounds_toArray, List.set_cons_zero, List.set_cons_succ])
                          refine wpAnyH_take (i := 108) (oi := { dst := some 292, op := Op.move (Operand.tmp 291), type := 4, pos := "laws.go:1772", after := #[{ on := 107, ground := Ground.data }, { on := 106, ground := Ground.chain }, { on := 106, ground := Ground.guard }], guard := some (106, false) }) (v := ?_) rfl (by kernel_rfl) (by kernel_rfl) (by kernel_rfl) np_putGF3 (Or.inl ⟨by rfl, ?_⟩) (by assumption) ?_
                          rotate_left
                          · (intro wS hSw; go_simp; (try with_reducible rfl))
                          (try simp only [Act.put, List.setIfInBounds_toArray, List.set_cons_zero, List.set_cons_succ])
                          refine wpAnyH_take (i := 109) (oi := { dst := some 293, op := Op.move (Operand.tmp 9), type := 4, pos := "laws.go:1772", after := #[{ on := 108, ground := Ground.guard }], guard := some (108, true) }) (v := undef) rfl (by kernel_rfl) (by kernel_rfl) (by kernel_rfl) np_putGF3 (Or.inr ⟨by rfl, rfl⟩) (by assumption) ?_
                          (try simp only [Act.put, List.setIfInBounds_toArray, List.set_cons_zero, List.set_cons_succ])
                          refine wpAnyH_take (i := 110) (oi := { dst := some 294, op := Op.unOp UnOp.not 4 (Operand.tmp 293), type := 4, pos := "laws.go:1772", after := #[{ on := 109, ground := Ground.data }, { on := 108, ground := Ground.guard }], guard := some (108, true) }) (v := undef) rfl (by kernel_rfl) (by kernel_rfl) (by kernel_rfl) np_putGF3 (Or.inr ⟨by rfl, rfl⟩) (by assumption) ?_
                          (try simp only [Act.put, List.setIfInBounds_toArray, List.set_cons_zero, List.set_cons_succ])
                          refine wpAnyH_take (i := 111) (oi := { dst := some 295, op := Op.pick (Operand.tmp 292) (Operand.tmp 294) (Operand.const (Value.bool false)), type := 4, pos := "laws.go:1772", after := #[{ on := 108, ground := Ground.data }, { on := 110, ground := Ground.data }, { on := 106, ground := Ground.guard }], guard := some (106, false) }) (v := ?_) rfl (by kernel_rfl) (by kernel_rfl) (by kernel_rfl) np_putGF3 (Or.inl ⟨by rfl, ?_⟩) (by assumption) ?_
                          rotate_left
                          · (intro wS hSw; go_simp; (try with_reducible rfl))
                          (try simp only [Act.put, List.setIfInBounds_toArray, List.set_cons_zero, List.set_cons_succ])
                          refine wpAnyH_take (i := 112) (oi := { dst := some 296, op := Op.pick (Operand.tmp 290) (Operand.const (Value.bool true)) (Operand.tmp 295), type := 4, pos := "laws.go:1772", after := #[{ on := 106, ground := Ground.data }, { on := 111, ground := Ground.data }], guard := none }) (v := ?_) rfl (by kernel_rfl) (by kernel_rfl) (by kernel_rfl) np_putGF3 (Or.inl ⟨by rfl, ?_⟩) (by assumption) ?_
                          rotate_left
                          · (intro wS hSw; go_simp; (try with_reducible rfl))
                          (try simp only [Act.put, List.setIfInBounds_toArray, List.set_cons_zero, List.set_cons_succ])
                          refine wpAnyH_take (i := 113) (oi := { dst := some 297, op := Op.move (Operand.tmp 296), type := 4, pos := "laws.go:1772", after := #[{ on := 112, ground := Ground.data }, { on := 108, ground := Ground.chain }], guard := none }) (v := ?_) rfl (by kernel_rfl) (by kernel_rfl) (by kernel_rfl) np_putGF3 (Or.inl ⟨by rfl, ?_⟩) (by assumption) ?_
                          rotate_left
                          · (intro wS hSw; go_simp; (try with_reducible rfl))
                          (try simp only [Act.put, List.setIfInBounds_toArray, List.set_cons_zero, List.set_cons_succ])
                          refine wpAnyH_take (i := 114) (oi := { dst := some 298, op := Op.load 25 (Operand.tmp 5), type := 25, pos := "laws.go:1772", after := #[{ on := 113, ground := Ground.guard }], guard := some (113, false) }) (v := ?_) rfl (by kernel_rfl) (by kernel_rfl) (by kernel_rfl) np_putGF3 (Or.inl ⟨by rfl, ?_⟩) (by assumption) ?_
                          rotate_left
                          · (intro wS hSw; have qq0 := (hSw.cell (p := ⟨b1, 0, none⟩) l8).trans c0; have qq1 := (hSw.cell (p := ⟨b1, 1, none⟩) l8).trans c1; go_simp; (try with_reducible rfl))
                          (try simp only [Act.put, List.setIfInBounds_toArray, List.set_cons_zero, List.set_cons_succ])
                          refine wpAnyH_take (i := 116) (oi := { dst := some 300, op := Op.load 25 (Operand.tmp 5), type := 25, pos := "laws.go:1772", after := #[{ on := 113, ground := Ground.guard }], guard := some (113, false) }) (v := ?_) rfl (by kernel_rfl) (by kernel_rfl) (by kernel_rfl) np_putGF3 (Or.inl ⟨by rfl, ?_⟩) (by assumption) ?_
                          rotate_left
                          · (intro wS hSw; have qq0 := (hSw.cell (p := ⟨b1, 0, none⟩) l8).trans c0; have qq1 := (hSw.cell (p := ⟨b1, 1, none⟩) l8).trans c1; go_simp; (try with_reducible rfl))
                          (try simp only [Act.put, List.setIfInBounds_toArray, List.set_cons_zero, List.set_cons_succ])
                          as_aux_lemma =>
                            refine wpAnyH_ready (rs := [115]) (by kernel_rfl) (by simp) ?_
                            refine AllReadyH.cons (o := { dst := some 299, op := Op.call { callee := Callee.value (Operand.func 21), args := #[Operand.tmp 298], argTypes := #[25] }, type := 4, pos := "laws.go:1772", after := #[{ on := 114, ground := Ground.data }, { on := 113, ground := Ground.chain }, { on := 113, ground := Ground.guard }], guard := some (113, false) }) rfl (fun K hK => ?_) AllReadyH.nil
                            go_simp
                            (go_at_call 21; refine (HM1.out _).mono ?_; rintro e w16 ⟨rfl, hbb⟩)
                            have HB16 := Lib.hid (HB15.out.trans (hbb.mono HB15.out.size))
                            clear hbb
                            refine hK.out _ _ (HB16.out) (fun hHeld2 => ?_)
                            clear hK K
                            (try simp only [Act.put, List.setIfInBounds_toArray, List.set_cons_zero, List.set_cons_succ])
                            refine wpAnyH_ready (rs := [117]) (by kernel_rfl) (by simp) ?_
                            refine AllReadyH.cons (o := { dst := some 301, op := Op.call { callee := Callee.value (Operand.func 22), args := #[Operand.tmp 300], argTypes := #[25] }, type := 4, pos := "laws.go:1772", after := #[{ on := 116, ground := Ground.data }, { on := 115, ground := Ground.chain }, { on := 113, ground := Ground.guard }], guard := some (113, false) }) rfl (fun K hK => ?_) AllReadyH.nil
                            go_simp
                            (go_at_call 22; refine (HM2.out _).mono ?_; rintro e w17 ⟨rfl, hbb⟩)
                            have HB17 := Lib.hid (HB16.out.trans (hbb.mono HB16.out.size))
                            clear hbb
                            refine hK.out _ _ (HB17.out) (fun hHeld2 => ?_)
                            clear hK K
                            (try simp only [Act.put, List.setIfInBounds_toArray, List.set_cons_zero, List.set_cons_succ])
                            refine wpAnyH_take (i := 118) (oi := { dst := some 302, op := Op.binOp BinOp.neq 4 (Operand.tmp 299) (Operand.tmp 301) 4, type := 4, pos := "laws.go:1772", after := #[{ on := 115, ground := Ground.data }, { on := 117, ground := Ground.data }, { on := 113, ground := Ground.guard }], guard := some (113, false) }) (v := ?_) rfl (by kernel_rfl) (by kernel_rfl) (by kernel_rfl) np_putGF3 (Or.inl ⟨by rfl, ?_⟩) (by assumption) ?_
                            rotate_left
                            · (intro wS hSw; go_simp; (try with_reducible rfl))
                            (try simp only [Act.put, List.setIfInBounds_toArray, List.set_cons_zero, List.set_cons_succ])
                            refine wpAnyH_take (i := 119) (oi := { dst := some 303, op := Op.pick (Operand.tmp 297) (Operand.const (Value.bool true)) (Operand.tmp 302), type := 4, pos := "laws.go:1772", after := #[{ on := 113, ground := Ground.data }, { on := 118, ground := Ground.data }], guard := none }) (v := ?_) rfl (by kernel_rfl) (by kernel_rfl) (by kernel_rfl) np_putGF3 (Or.inl ⟨by rfl, ?_⟩) (by assumption) ?_
                            rotate_left
                            · (intro wS hSw; go_simp; (try with_reducible rfl))
                            (try simp only [Act.put, List.setIfInBounds_toArray, List.set_cons_zero, List.set_cons_succ])
                            refine wpAnyH_take (i := 120) (oi := { dst := some 304, op := Op.move (Operand.tmp 303), type := 4, pos := "laws.go:1772", after := #[{ on := 119, ground := Ground.data }, { on := 117, ground := Ground.chain }], guard := none }) (v := ?_) rfl (by kernel_rfl) (by kernel_rfl) (by kernel_rfl) np_putGF3 (Or.inl ⟨by rfl, ?_⟩) (by assumption) ?_
                            rotate_left
                            · (intro wS hSw; go_simp; (try with_reducible rfl))
                            (try simp only [Act.put, List.setIfInBounds_toArray, List.set_cons_zero, List.set_cons_succ])
                            refine wpAnyH_take (i := 121) (oi := { dst := some 305, op := Op.move (Operand.tmp 9), type := 4, pos := "laws.go:1772", after := #[{ on := 120, ground := Ground.guard }], guard := some (120, false) }) (v := ?_) rfl (by kernel_rfl) (by kernel_rfl) (by kernel_rfl) np_putGF3 (Or.inl ⟨by rfl, ?_⟩) (by assumption) ?_
                            rotate_left
                            · (intro wS hSw; go_simp; (try with_reducible rfl))
                            (try simp only [Act.put, List.setIfInBounds_toArray, List.set_cons_zero, List.set_cons_succ])
                            refine wpAnyH_take (i := 122) (oi := { dst := some 306, op := Op.move (Operand.tmp 305), type := 4, pos := "laws.go:1772", after := #[{ on := 121, ground := Ground.data }, { on := 120, ground := Ground.chain }, { on := 120, ground := Ground.guard }], guard := some (120, false) }) (v := ?_) rfl (by kernel_rfl) (by kernel_rfl) (by kernel_rfl) np_putGF3 (Or.inl ⟨by rfl, ?_⟩) (by assumption) ?_
                            rotate_left
                            · (intro wS hSw; go_simp; (try with_reducible rfl))
                            (try simp only [Act.put, List.setIfInBounds_toArray, List.set_cons_zero, List.set_cons_succ])
                            refine wpAnyH_take (i := 123) (oi := { dst := some 307, op := Op.load 25 (Operand.tmp 5), type := 25, pos := "laws.go:1772", after := #[{ on := 122, ground := Ground.guard }], guard := some (122, true) }) (v := ?_) rfl (by kernel_rfl) (by kernel_rfl) (by kernel_rfl) np_putGF3 (Or.inl ⟨by rfl, ?_⟩) (by assumption) ?_
                            rotate_left
                            · (intro wS hSw; have qq0 := (hSw.cell (p := ⟨b1, 0, none⟩) l8).trans c0; have qq1 := (hSw.cell (p := ⟨b1, 1, none⟩) l8).trans c1; go_simp; (try with_reducible rfl))
                            (try simp only [Act.put, List.setIfInBounds_toArray, List.set_cons_zero, List.set_cons_succ])
                            refine wpAnyH_ready (rs := [124]) (by kernel_rfl) (by simp) ?_
                            refine AllReadyH.cons (o := { dst := some 308, op := Op.call { callee := Callee.value (Operand.func 21), args := #[Operand.tmp 307], argTypes := #[25] }, type := 4, pos := "laws.go:1772", after := #[{ on := 123, ground := Ground.data }, { on := 122, ground := Ground.chain }, { on := 122, ground := Ground.guard }], guard := some (122, true) }) rfl (fun K hK => ?_) AllReadyH.nil
                            go_simp
                            (go_at_call 21; refine (HM1.out _).mono ?_; rintro e w18 ⟨rfl, hbb⟩)
                            have HB18 := Lib.hid (HB17.out.trans (hbb.mono HB17.out.size))
                            clear hbb
                            refine hK.out _ _ (HB18.out) (fun hHeld2 => ?_)
                            clear hK K
                            (try simp only [Act.put, List.setIfInBounds_toArray, List.set_cons_zero, List.set_cons_succ])
                            refine wpAnyH_take (i := 125) (oi := { dst := some 309, op := Op.unOp UnOp.not 4 (Operand.tmp 308), type := 4, pos := "laws.go:1772", after := #[{ on := 124, ground := Ground.data }, { on := 122, ground := Ground.guard }], guard := some (122, true) }) (v := ?_) rfl (by kernel_rfl) (by kernel_rfl) (by kernel_rfl) np_putGF3 (Or.inl ⟨by rfl, ?_⟩) (by assumption) ?_
                            rotate_left
                            · (intro wS hSw; go_simp; (try with_reducible rfl))
                            (try simp only [Act.put, List.setIfInBounds_toArray, List.set_cons_zero, List.set_cons_succ])
                            refine wpAnyH_take (i := 126) (oi := { dst := some 310, op := Op.pick (Operand.tmp 306) (Operand.tmp 309) (Operand.const (Value.bool false)), type := 4, pos := "laws.go:1772", after := #[{ on := 122, ground := Ground.data }, { on := 125, ground := Ground.data }, { on := 120, ground := Ground.guard }], guard := some (120, false) }) (v := ?_) rfl (by kernel_rfl) (by kernel_rfl) (by kernel_rfl) np_putGF3 (Or.inl ⟨by rfl, ?_⟩) (by assumption) ?_
                            rotate_left
                            · (intro wS hSw; go_simp; (try with_reducible rfl))
                            (try simp only [Act.put, List.setIfInBounds_toArray, List.set_cons_zero, List.set_cons_succ])
                            refine wpAnyH_take (i := 127) (oi := { dst := some 311, op := Op.pick (Operand.tmp 304) (Operand.const (Value.bool true)) (Operand.tmp 310), type := 4, pos := "laws.go:1772", after := #[{ on := 120, ground := Ground.data }, { on := 126, ground := Ground.data }], guard := none }) (v := ?_) rfl (by kernel_rfl) (by kernel_rfl) (by kernel_rfl) np_putGF3 (Or.inl ⟨by rfl, ?_⟩) (by assumption) ?_
                            rotate_left
                            · (intro wS hSw; go_simp; (try with_reducible rfl))
                            (try simp only [Act.put, List.setIfInBounds_toArray, List.set_cons_zero, List.set_cons_succ])
                            refine wpAnyH_done (by kernel_rfl) ?_ _
                            refine NoPanic.normal ?_
                            go_wp2_with fail
                            go_meet
                            case rel => exact ⟨rfl, Lib.hid HB18.out⟩
                      · as_aux_lemma =>
                          refine wpAnyH_take (i := 100) (oi := { dst := some 284, op := Op.move (Operand.tmp 13), type := 4, pos := "laws.go:1772", after := #[{ on := 99, ground := Ground.guard }], guard := some (99, false) }) (v := ?_) rfl (by kernel_rfl) (by kernel_rfl) (by kernel_rfl) np_putGF3 (Or.inl ⟨by rfl, ?_⟩) (by assumption) ?_
                          rotate_left
                          · (intro wS hSw; go_simp; (try with_reducible rfl))
                          (try simp only [Act.put, List.setIfInBounds_toArray, List.set_cons_zero, List.set_cons_succ])
                          refine wpAnyH_take (i := 101) (oi := { dst := some 285, op := Op.move (Operand.tmp 284), type := 4, pos := "laws.go:1772", after := #[{ on := 100, ground := Ground.data }, { on := 99, ground := Ground.chain }, { on := 99, ground := Ground.guard }], guard := some (99, false) }) (v := ?_) rfl (by kernel_rfl) (by kernel_rfl) (by kernel_rfl) np_putGF3 (Or.inl ⟨by rfl, ?_⟩) (by assumption) ?_
                          rotate_left
                          · (intro wS hSw; go_simp; (try with_reducible rfl))
                          (try simp only [Act.put, List.setIfInBounds_toArray, List.set_cons_zero, List.set_cons_succ])
                          refine wpAnyH_take (i := 102) (oi := { dst := some 286, op := Op.move (Operand.tmp 9), type := 4, pos := "laws.go:1772", after := #[{ on := 101, ground := Ground.guard }], guard := some (101, true) }) (v := ?_) rfl (by kernel_rfl) (by kernel_rfl) (by kernel_rfl) np_putGF3 (Or.inl ⟨by rfl, ?_⟩) (by assumption) ?_
                          rotate_left
                          · (intro wS hSw; go_simp; (try with_reducible rfl))
                          (try simp only [Act.put, List.setIfInBounds_toArray, List.set_cons_zero, List.set_cons_succ])
                          refine wpAnyH_take (i := 103) (oi := { dst := some 287, op := Op.unOp UnOp.not 4 (Operand.tmp 286), type := 4, pos := "laws.go:1772", after := #[{ on := 102, ground := Ground.data }, { on := 101, ground := Ground.guard }], guard := some (101, true) }) (v := ?_) rfl (by kernel_rfl) (by kernel_rfl) (by kernel_rfl) np_putGF3 (Or.inl ⟨by rfl, ?_⟩) (by assumption) ?_
                          rotate_left
                          · (intro wS hSw; go_simp; (try with_reducible rfl))
                          (try simp only [Act.put, List.setIfInBounds_toArray, List.set_cons_zero, List.set_cons_succ])
                          refine wpAnyH_take (i := 104) (oi := { dst := some 288, op := Op.pick (Operand.tmp 285) (Operand.tmp 287) (Operand.const (Value.bool false)), type := 4, pos := "laws.go:1772", after := #[{ on := 101, ground := Ground.data }, { on := 103, ground := Ground.data }, { on := 99, ground := Ground.guard }], guard := some (99, false) }) (v := ?_) rfl (by kernel_rfl) (by kernel_rfl) (by kernel_rfl) np_putGF3 (Or.inl ⟨by rfl, ?_⟩) (by assumption) ?_
                          rotate_left
                          · (intro wS hSw; go_simp; (try with_reducible rfl))
                          (try simp only [Act.put, List.setIfInBounds_toArray, List.set_cons_zero, List.set_cons_succ])
                          refine wpAnyH_take (i := 105) (oi := { dst := some 289, op := Op.pick (Operand.tmp 283) (Operand.const (Value.bool true)) (Operand.tmp 288), type := 4, pos := "laws.go:1772", after := #[{ on := 99, ground := Ground.data }, { on := 104, ground := Ground.data }], guard := none }) (v := ?_) rfl (by kernel_rfl) (by kernel_rfl) (by kernel_rfl) np_putGF3 (Or.inl ⟨by rfl, ?_⟩) (by assumption) ?_
                          rotate_left
                          · (intro wS hSw; go_simp; (try with_reducible rfl))
                          (try simp only [Act.put, List.setIfInBounds_toArray, List.set_cons_zero, List.set_cons_succ])
                          refine wpAnyH_take (i := 106) (oi := { dst := some 290, op := Op.move (Operand.tmp 289), type := 4, pos := "laws.go:1772", after := #[{ on := 105, ground := Ground.data }, { on := 101, ground := Ground.chain }], guard := none }) (v := ?_) rfl (by kernel_rfl) (by kernel_rfl) (by kernel_rfl) np_putGF3 (Or.inl ⟨by rfl, ?_⟩) (by assumption) ?_
                          rotate_left
                          · (intro wS hSw; go_simp; (try with_reducible rfl))
                          (try simp only [Act.put, List.setIfInBounds_toArray, List.set_cons_zero, List.set_cons_succ])
                          refine wpAnyH_take (i := 107) (oi := { dst := some 291, op := Op.move (Operand.tmp 37), type := 4, pos := "laws.go:1772", after := #[{ on := 106, ground := Ground.guard }], guard := some (106, false) }) (v := ?_) rfl (by kernel_rfl) (by kernel_rfl) (by kernel_rfl) np_putGF3 (Or.inl ⟨by rfl, ?_⟩) (by assumption) ?_
                          rotate_left
                          · (intro wS hSw; go_simp; (try with_reducible rfl))
                          (try simp only [Act.put, List.setIfInBounds_toArray, List.set_cons_zero, List.set_cons_succ])
                          refine wpAnyH_take (i := 108) (oi := { dst := some 292, op := Op.move (Operand.tmp 291), type := 4, pos := "laws.go:1772", after := #[{ on := 107, ground := Ground.data }, { on := 106, ground := Ground.chain }, { on := 106, ground := Ground.guard }], guard := some (106, false) }) (v := ?_) rfl (by kernel_rfl) (by kernel_rfl) (by kernel_rfl) np_putGF3 (Or.inl ⟨by rfl, ?_⟩) (by assumption) ?_
                          rotate_left
                          · (intro wS hSw; go_simp; (try with_reducible rfl))
                          (try simp only [Act.put, List.setIfInBounds_toArray, List.set_cons_zero, List.set_cons_succ])
                          refine wpAnyH_take (i := 109) (oi := { dst := some 293, op := Op.move (Operand.tmp 9), type := 4, pos := "laws.go:1772", after := #[{ on := 108, ground := Ground.guard }], guard := some (108, true) }) (v := ?_) rfl (by kernel_rfl) (by kernel_rfl) (by kernel_rfl) np_putGF3 (Or.inl ⟨by rfl, ?_⟩) (by assumption) ?_
                          rotate_left
                          · (intro wS hSw; go_simp; (try with_reducible rfl))
                          (try simp only [Act.put, List.setIfInBounds_toArray, List.set_cons_zero, List.set_cons_succ])
                          refine wpAnyH_take (i := 110) (oi := { dst := some 294, op := Op.unOp UnOp.not 4 (Operand.tmp 293), type := 4, pos := "laws.go:1772", after := #[{ on := 109, ground := Ground.data }, { on := 108, ground := Ground.guard }], guard := some (108, true) }) (v := ?_) rfl (by kernel_rfl) (by kernel_rfl) (by kernel_rfl) np_putGF3 (Or.inl ⟨by rfl, ?_⟩) (by assumption) ?_
                          rotate_left
                          · (intro wS hSw; go_simp; (try with_reducible rfl))
                          (try simp only [Act.put, List.setIfInBounds_toArray, List.set_cons_zero, List.set_cons_succ])
                          refine wpAnyH_take (i := 111) (oi := { dst := some 295, op := Op.pick (Operand.tmp 292) (Operand.tmp 294) (Operand.const (Value.bool false)), type := 4, pos := "laws.go:1772", after := #[{ on := 108, ground := Ground.data }, { on := 110, ground := Ground.data }, { on := 106, ground := Ground.guard }], guard := some (106, false) }) (v := ?_) rfl (by kernel_rfl) (by kernel_rfl) (by kernel_rfl) np_putGF3 (Or.inl ⟨by rfl, ?_⟩) (by assumption) ?_
                          rotate_left
                          · (intro wS hSw; go_simp; (try with_reducible rfl))
                          (try simp only [Act.put, List.setIfInBounds_toArray, List.set_cons_zero, List.set_cons_succ])
                          refine wpAnyH_take (i := 112) (oi := { dst := some 296, op := Op.pick (Operand.tmp 290) (Operand.const (Value.bool true)) (Operand.tmp 295), type := 4, pos := "laws.go:1772", after := #[{ on := 106, ground := Ground.data }, { on := 111, ground := Ground.data }], guard := none }) (v := ?_) rfl (by kernel_rfl) (by kernel_rfl) (by kernel_rfl) np_putGF3 (Or.inl ⟨by rfl, ?_⟩) (by assumption) ?_
                          rotate_left
                          · (intro wS hSw; go_simp; (try with_reducible rfl))
                          (try simp only [Act.put, List.setIfInBounds_toArray, List.set_cons_zero, List.set_cons_succ])
                          refine wpAnyH_take (i := 113) (oi := { dst := some 297, op := Op.move (Operand.tmp 296), type := 4, pos := "laws.go:1772", after := #[{ on := 112, ground := Ground.data }, { on := 108, ground := Ground.chain }], guard := none }) (v := ?_) rfl (by kernel_rfl) (by kernel_rfl) (by kernel_rfl) np_putGF3 (Or.inl ⟨by rfl, ?_⟩) (by assumption) ?_
                          rotate_left
                          · (intro wS hSw; go_simp; (try with_reducible rfl))
                          (try simp only [Act.put, List.setIfInBounds_toArray, List.set_cons_zero, List.set_cons_succ])
                          refine wpAnyH_take (i := 114) (oi := { dst := some 298, op := Op.load 25 (Operand.tmp 5), type := 25, pos := "laws.go:1772", after := #[{ on := 113, ground := Ground.guard }], guard := some (113, false) }) (v := ?_) rfl (by kernel_rfl) (by kernel_rfl) (by kernel_rfl) np_putGF3 (Or.inl ⟨by rfl, ?_⟩) (by assumption) ?_
                          rotate_left
                          · (intro wS hSw; have qq0 := (hSw.cell (p := ⟨b1, 0, none⟩) l8).trans c0; have qq1 := (hSw.cell (p := ⟨b1, 1, none⟩) l8).trans c1; go_simp; (try with_reducible rfl))
                          (try simp only [Act.put, List.setIfInBounds_toArray, List.set_cons_zero, List.set_cons_succ])
                          refine wpAnyH_take (i := 116) (oi := { dst := some 300, op := Op.load 25 (Operand.tmp 5), type := 25, pos := "laws.go:1772", after := #[{ on := 113, ground := Ground.guard }], guard := some (113, false) }) (v := ?_) rfl (by kernel_rfl) (by kernel_rfl) (by kernel_rfl) np_putGF3 (Or.inl ⟨by rfl, ?_⟩) (by assumption) ?_
                          rotate_left
                          · (intro wS hSw; have qq0 := (hSw.cell (p := ⟨b1, 0, none⟩) l8).trans c0; have qq1 := (hSw.cell (p := ⟨b1, 1, none⟩) l8).trans c1; go_simp; (try with_reducible rfl))
                          (try simp only [Act.put, List.setIfInBounds_toArray, List.set_cons_zero, List.set_cons_succ])
                          as_aux_lemma =>
                            refine wpAnyH_ready (rs := [115]) (by kernel_rfl) (by simp) ?_
                            refine AllReadyH.cons (o := { dst := some 299, op := Op.call { callee := Callee.value (Operand.func 21), args := #[Operand.tmp 298], argTypes := #[25] }, type := 4, pos := "laws.go:1772", after := #[{ on := 114, ground := Ground.data }, { on := 113, ground := Ground.chain }, { on := 113, ground := Ground.guard }], guard := some (113, false) }) rfl (fun K hK => ?_) AllReadyH.nil
                            go_simp
                            (go_at_call 21; refine (HM1.out _).mono ?_; rintro e w16 ⟨rfl, hbb⟩)
                            have HB16 := Lib.hid (HB15.out.trans (hbb.mono HB15.out.size))
                            clear hbb
                            refine hK.out _ _ (HB16.out) (fun hHeld2 => ?_)
                            clear hK K
                            (try simp only [Act.put, List.setIfInBounds_toArray, List.set_cons_zero, List.set_cons_succ])
                            refine wpAnyH_ready (rs := [117]) (by kernel_rfl) (by simp) ?_
                            refine AllReadyH.cons (o := { dst := some 301, op := Op.call { callee := Callee.value (Operand.func 22), args := #[Operand.tmp 300], argTypes := #[25] }, type := 4, pos := "laws.go:1772", after := #[{ on := 116, ground := Ground.data }, { on := 115, ground := Ground.chain }, { on := 113, ground := Ground.guard }], guard := some (113, false) }) rfl (fun K hK => ?_) AllReadyH.nil
                            go_simp
                            (go_at_call 22; refine (HM2.out _).mono ?_; rintro e w17 ⟨rfl, hbb⟩)
                            have HB17 := Lib.hid (HB16.out.trans (hbb.mono HB16.out.size))
                            clear hbb
                            refine hK.out _ _ (HB17.out) (fun hHeld2 => ?_)
                            clear hK K
                            (try simp only [Act.put, List.setIfInBounds_toArray, List.set_cons_zero, List.set_cons_succ])
                            refine wpAnyH_take (i := 118) (oi := { dst := some 302, op := Op.binOp BinOp.neq 4 (Operand.tmp 299) (Operand.tmp 301) 4, type := 4, pos := "laws.go:1772", after := #[{ on := 115, ground := Ground.data }, { on := 117, ground := Ground.data }, { on := 113, ground := Ground.guard }], guard := some (113, false) }) (v := ?_) rfl (by kernel_rfl) (by kernel_rfl) (by kernel_rfl) np_putGF3 (Or.inl ⟨by rfl, ?_⟩) (by assumption) ?_
                            rotate_left
                            · (intro wS hSw; go_simp; (try with_reducible rfl))
                            (try simp only [Act.put, List.setIfInBounds_toArray, List.set_cons_zero, List.set_cons_succ])
                            refine wpAnyH_take (i := 119) (oi := { dst := some 303, op := Op.pick (Operand.tmp 297) (Operand.const (Value.bool true)) (Operand.tmp 302), type := 4, pos := "laws.go:1772", after := #[{ on := 113, ground := Ground.data }, { on := 118, ground := Ground.data }], guard := none }) (v := ?_) rfl (by kernel_rfl) (by kernel_rfl) (by kernel_rfl) np_putGF3 (Or.inl ⟨by rfl, ?_⟩) (by assumption) ?_
                            rotate_left
                            · (intro wS hSw; go_simp; (try with_reducible rfl))
                            (try simp only [Act.put, List.setIfInBounds_toArray, List.set_cons_zero, List.set_cons_succ])
                            refine wpAnyH_take (i := 120) (oi := { dst := some 304, op := Op.move (Operand.tmp 303), type := 4, pos := "laws.go:1772", after := #[{ on := 119, ground := Ground.data }, { on := 117, ground := Ground.chain }], guard := none }) (v := ?_) rfl (by kernel_rfl) (by kernel_rfl) (by kernel_rfl) np_putGF3 (Or.inl ⟨by rfl, ?_⟩) (by assumption) ?_
                            rotate_left
                            · (intro wS hSw; go_simp; (try with_reducible rfl))
                            (try simp only [Act.put, List.setIfInBounds_toArray, List.set_cons_zero, List.set_cons_succ])
                            refine wpAnyH_take (i := 121) (oi := { dst := some 305, op := Op.move (Operand.tmp 9), type := 4, pos := "laws.go:1772", after := #[{ on := 120, ground := Ground.guard }], guard := some (120, false) }) (v := ?_) rfl (by kernel_rfl) (by kernel_rfl) (by kernel_rfl) np_putGF3 (Or.inl ⟨by rfl, ?_⟩) (by assumption) ?_
                            rotate_left
                            · (intro wS hSw; go_simp; (try with_reducible rfl))
                            (try simp only [Act.put, List.setIfInBounds_toArray, List.set_cons_zero, List.set_cons_succ])
                            refine wpAnyH_take (i := 122) (oi := { dst := some 306, op := Op.move (Operand.tmp 305), type := 4, pos := "laws.go:1772", after := #[{ on := 121, ground := Ground.data }, { on := 120, ground := Ground.chain }, { on := 120, ground := Ground.guard }], guard := some (120, false) }) (v := ?_) rfl (by kernel_rfl) (by kernel_rfl) (by kernel_rfl) np_putGF3 (Or.inl ⟨by rfl, ?_⟩) (by assumption) ?_
                            rotate_left
                            · (intro wS hSw; go_simp; (try with_reducible rfl))
                            (try simp only [Act.put, List.setIfInBounds_toArray, List.set_cons_zero, List.set_cons_succ])
                            refine wpAnyH_take (i := 123) (oi := { dst := some 307, op := Op.load 25 (Operand.tmp 5), type := 25, pos := "laws.go:1772", after := #[{ on := 122, ground := Ground.guard }], guard := some (122, true) }) (v := ?_) rfl (by kernel_rfl) (by kernel_rfl) (by kernel_rfl) np_putGF3 (Or.inl ⟨by rfl, ?_⟩) (by assumption) ?_
                            rotate_left
                            · (intro wS hSw; have qq0 := (hSw.cell (p := ⟨b1, 0, none⟩) l8).trans c0; have qq1 := (hSw.cell (p := ⟨b1, 1, none⟩) l8).trans c1; go_simp; (try with_reducible rfl))
                            (try simp only [Act.put, List.setIfInBounds_toArray, List.set_cons_zero, List.set_cons_succ])
                            refine wpAnyH_ready (rs := [124]) (by kernel_rfl) (by simp) ?_
                            refine AllReadyH.cons (o := { dst := some 308, op := Op.call { callee := Callee.value (Operand.func 21), args := #[Operand.tmp 307], argTypes := #[25] }, type := 4, pos := "laws.go:1772", after := #[{ on := 123, ground := Ground.data }, { on := 122, ground := Ground.chain }, { on := 122, ground := Ground.guard }], guard := some (122, true) }) rfl (fun K hK => ?_) AllReadyH.nil
                            go_simp
                            (go_at_call 21; refine (HM1.out _).mono ?_; rintro e w18 ⟨rfl, hbb⟩)
                            have HB18 := Lib.hid (HB17.out.trans (hbb.mono HB17.out.size))
                            clear hbb
                            refine hK.out _ _ (HB18.out) (fun hHeld2 => ?_)
                            clear hK K
                            (try simp only [Act.put, List.setIfInBounds_toArray, List.set_cons_zero, List.set_cons_succ])
                            refine wpAnyH_take (i := 125) (oi := { dst := some 309, op := Op.unOp UnOp.not 4 (Operand.tmp 308), type := 4, pos := "laws.go:1772", after := #[{ on := 124, ground := Ground.data }, { on := 122, ground := Ground.guard }], guard := some (122, true) }) (v := ?_) rfl (by kernel_rfl) (by kernel_rfl) (by kernel_rfl) np_putGF3 (Or.inl ⟨by rfl, ?_⟩) (by assumption) ?_
                            rotate_left
                            · (intro wS hSw; go_simp; (try with_reducible rfl))
                            (try simp only [Act.put, List.setIfInBounds_toArray, List.set_cons_zero, List.set_cons_succ])
                            refine wpAnyH_take (i := 126) (oi := { dst := some 310, op := Op.pick (Operand.tmp 306) (Operand.tmp 309) (Operand.const (Value.bool false)), type := 4, pos := "laws.go:1772", after := #[{ on := 122, ground := Ground.data }, { on := 125, ground := Ground.data }, { on := 120, ground := Ground.guard }], guard := some (120, false) }) (v := ?_) rfl (by kernel_rfl) (by kernel_rfl) (by kernel_rfl) np_putGF3 (Or.inl ⟨by rfl, ?_⟩) (by assumption) ?_
                            rotate_left
                            · (intro wS hSw; go_simp; (try with_reducible rfl))
                            (try simp only [Act.put, List.setIfInBounds_toArray, List.set_cons_zero, List.set_cons_succ])
                            refine wpAnyH_take (i := 127) (oi := { dst := some 311, op := Op.pick (Operand.tmp 304) (Operand.const (Value.bool true)) (Operand.tmp 310), type := 4, pos := "laws.go:1772", after := #[{ on := 120, ground := Ground.data }, { on := 126, ground := Ground.data }], guard := none }) (v := ?_) rfl (by kernel_rfl) (by kernel_rfl) (by kernel_rfl) np_putGF3 (Or.inl ⟨by rfl, ?_⟩) (by assumption) ?_
                            rotate_left
                            · (intro wS hSw; go_simp; (try with_reducible rfl))
                            (try simp only [Act.put, List.setIfInBounds_toArray, List.set_cons_zero, List.set_cons_succ])
                            refine wpAnyH_done (by kernel_rfl) ?_ _
                            refine NoPanic.normal ?_
                            go_wp2_with fail
                            go_meet
                            case rel => exact ⟨rfl, Lib.hid HB18.out⟩
  case rest =>
    obtain ⟨rfl, hb⟩ := hcut
    have hb := hb.out
    obtain ⟨a3, c3, rfl, hz⟩ := R3.out
    clear hz HXL HM1 HM2 HBG
    go_upto_if 311 with fail
    go_cut [] from 311 to 311 (fun wx => Hid (Below wq.heap.size wq wx))
    case first =>
      go_wp2_with fail
      go_meet
      case rel => exact Lib.hid hb
    case rest =>
      have hb := hcut.out
      refine ‹∀ (a : Act) (w : World), Code.wp _ _ _ a w → _› _ _ ?_
      exact sb_mid vm b1 t p n k A true xs true sg od P1 P2 L1 L2 s1 se a3 c3 w _ (Lib.hid (M.out.kept hb)) (Lib.hid (B.out.trans (hb.mono B.out.size))) HM (Lib.hid (R3.out.kept hb)) HF _ _ _ _ _ _ _ _ _ _ _ _ _ _ _ _ _ _ _ _ _ _ _ _ _ _ _ _ _ _ _ _ _ _ _ _ _ _ _ _ _ _ _ _ _ _ _ _ _ _ _ _ _ _ _ _ _ _ _ _ _ _ _ _ _ _ _ _ _ _ _ _ _ _ _ _ _ _ _ _ _ _ _ _ _ _ _ _ _ _ _ _ _ _ _ _ _ _ _ _ _ _ _ _ _ _ _ _ _ _ _ _ _ _ _ _ _ _ _ _ _ _ _ _ _ _ _ _ _ _ _ _ _ _ _ _ _ _ _ _ _ _ _ _ _ _ _ _ _ _ _ _ _ _ _ _ _ _ _ _ _ _ _ _ _ _ _ _ _ _ _ _ _ _ _ _ _ _ _ _ _ _ _ _ _ _ _ _ _ _ _ _ _ _ _ _ _ _ _ _ _ _ _ _ _ _ _ _ _ _ _ _ _ _ _ _ _ _ _ _ _ _ _ _ _ _ _ _ _ _ _ _ _ _ _ _ _ _ _ _ _ _ _ _ _ _ _ _ _ _ _ _ _ _ _ _ _ _ _ _ _ _ _ _ _ _ _ _ _ _ _ _ _ _ _ _ _ _ _ _ _ _ _ _ _ _ _ _ _ _ _ _ _ _ _ _ _ _ _ _ _ _ _ _ _ _ _ _ _ _ _ _ _ _ _ _ _ _ _ _ _ _ _ _ _ _ _ _ _ _ _ _ _ _ _ _ _ _ _ _ _ _ _ _ _ _ _ _ _ _ _ _ _ _ _ _ _ _ _ _ _ _ _ _ _ _ _ _ _ _ _ _ _ _ _ _ _ _ _ _ _ _ _ _ _ _ _ _ _ _ _ _ _ _ _ _ _ _ _ _ _ _ _ _ _ _ _ _ _ _ _ _ _ _ _ _ _ _ _ _ _ _ _ _ _ _ _ _ _ _ _ _ _ _ _ _ _ _ _ _ _ _ _ _ _ _ _ _ _ _ _ _ _ _ _ _ _ _ _ _ _ _ _ _ _ _ _ _ _ _ _ _ _ _ _ _ _ _ _ _ _ _ _ _ _ _ _ _ _ _ _ _ _ _ _ _ _ _ _ _ _ _ _ _ _ _ _ _ _ _ _ _ _ _ _ _ _ _ _ _ _ _ _ _ _ _ _ _ _ _ _ _ _ _ _ _ _ _ _ _ _ _ _ _ _ _ _ _ _ _ _ _ _ _ _ _ _ _ _ _ _ _ _ _ _ _ _ _ _ _ _ _ _ _ _ _ _ _ _ _ _ _ _ _ _ _ _ _ _ _ _ _ _ _ _ _ _ _ _ _ _
end Go.Proofs.Ytebbafapcknllaa
