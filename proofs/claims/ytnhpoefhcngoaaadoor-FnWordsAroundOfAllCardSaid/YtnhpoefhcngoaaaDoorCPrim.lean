/-
  'CountPrimitive' of both.
-/
import Derived.Test.YtnhpoefhcngoaaaDoorCyWF
import Derived.Test.YtnhpoefhcngoaaaDoorOddsC
import Derived.Laws.Externs
namespace Go.Proofs.YtnhpoefhcngoaaaDoor
open Go.RowKit
set_option linter.unusedVariables false

set_option maxRecDepth 100000 in
theorem count_wp (s : ByteArray) (w : World) :
    Calls Tryd.prog 46 #[.string s, .string ⟨#[111]⟩] w fun e w' => e = .returned (.int .i64 (cnt s.data.toList : Nat)) ∧ w = w' := by
  go_enter Tryd.func46, Tryd.ntmps46
  go_wp2
  rw [run_callFunc_extern Tryd.func59 (by kernel_rfl) (by kernel_rfl) (by kernel_rfl) (e := Extern.BytealgCount.count) (by kernel_rfl), Lib.run_countString]
  simp only [Result.andThen]
  rw [Oper.upon_value]
  go_wp2
  go_ret
  exact ⟨rfl, rfl⟩

/-- Has a word so many o? -/
def odB (o : Int) (l : List UInt8) : Bool := (cnt l : Int) == o
/-- How many primitive words, first ones of their turns, have so many o. -/
def cpX (L : Nat) (o : Int) : List ByteArray := selX (fun l => ftB l && odB o l) L (2 ^ L)
/-- Are there a length and a count? -/
def askP (k o : Int) : Bool := inB k 1 10 && inB o 0 k
/-- What CountPrimitive comes to. -/
def cpA (k o : Int) : Int := if askP k o = true then ((cpX k.toNat o).length : Int) else 0
theorem cpA_yes {L : Nat} {o : Int} (h : askP L o = true) : cpA L o = ((cpX L o).length : Int) := by rw [cpA, if_pos h]; rfl
theorem cpA_no {k o : Int} (h : askP k o = false) : cpA k o = 0 := by rw [cpA, if_neg (by simp [h])]
theorem askP_iff {k o : Int} : askP k o = true ↔ (1 ≤ k ∧ k ≤ 10) ∧ 0 ≤ o ∧ o ≤ k := by simp [askP, inB]

set_option maxRecDepth 100000 in
set_option maxHeartbeats 8000000 in
theorem iCountPrimitive_yes (L : Nat) (o : Int) (w : World) (h1 : 1 ≤ L) (hL : L ≤ 10) (o0 : 0 ≤ o) (o1 : o ≤ L) (htab : Tab w) (hm : TabM w) :
    Calls Tryd.prog 22 #[.int .i64 (L : Int), .int .i64 o] w fun e w' => e = .returned (.tuple #[.int .i64 ((cpX L o).length : Nat), .bool true]) ∧ Below w.heap.size w w' := by
  have HI := Lib.hid (fun w => isTurnLength_any (L : Int) w)
  rw [show inB (L : Int) 1 10 = true by simp [inB]; omega] at HI
  have HF := Lib.hid (firstTurns_any L w h1 hL htab hm)
  have HFIL : Hid (cpX L o = (selX ftB L (2 ^ L)).filter (fun s => odB o s.data.toList)) := Lib.hid (selX_filter ftB (odB o) L (2 ^ L)).symm
  have hlen := ftX_len hL
  generalize selX ftB L (2 ^ L) = xs at HF HFIL hlen
  have hd0 : decide (o < 0) = false := by simp; omega
  have hd1 : decide ((L : Int) < o) = false := by simp; omega
  have hL1 : (L : Int) ≤ 10 := by omega
  rw [HFIL.out]
  clear htab hm
  go_enter Tryd.func22, Tryd.ntmps22
  go_wp2_with (go_at_call 37; refine (HI.out _).mono ?_; rintro e w' ⟨rfl, rfl⟩)
  refine HF.out.mono ?_
  rintro e w2 ⟨v2, rfl, hrow2, hb2⟩
  have HB2 := Lib.hid hb2
  clear hb2
  rcases hrow2.cases with ⟨rfl, rfl⟩ | ⟨g, cap, rfl, hg1, hg2, hml, hrow⟩
  · clear hrow2
    go_wp2_with fail
    refine wp_loop_rounds 1 ?_
    rw [rounds_succ]
    go_wp2_with fail
    go_ret2
    exact ⟨rfl, HB2.out⟩
  · have HROW := Lib.hid hrow
    obtain ⟨M, hM⟩ : ∃ M, M = xs.length := ⟨_, rfl⟩
    rw [← hM] at hml hlen ⊢
    have HML := Lib.hid hM
    have hMi : (M : Int) ≤ 900 := by omega
    clear hrow hrow2 hM hg1
    go_wp2_with fail
    go_loopw [6, 24] (fun c x wr => ∃ j : Nat, j ≤ M ∧ x = .int .i64 j ∧ c = .int .i64 (((xs.take j).filter (fun s => odB o s.data.toList)).length : Nat) ∧ wr = w2) (fun _ x _ => M - (intOf x).toNat)
    case atStart => exact ⟨0, by omega, rfl, rfl, rfl⟩
    case round =>
      obtain ⟨j, hj, rfl, rfl, rfl⟩ := hrel
      have hfl : ((xs.take j).filter (fun s => odB o s.data.toList)).length ≤ 900 := Nat.le_trans (List.length_filter_le _ _) (by rw [List.length_take]; omega)
      by_cases hlt : j < M
      · have hjM : (j : Int) < (M : Int) := by omega
        have hlt2 : j < xs.length := by rw [← HML.out]; exact hlt
        have q : wr.cell? ⟨g, j, none⟩ = some (.string xs[j]) := by
          rw [(HROW.out j hlt2).1]
          simp [List.getD_eq_getElem?_getD, hlt2]
        have HC := Lib.hid (fun w => count_wp xs[j] w)
        have HYES := Lib.hid (fun h => congrArg List.length (filter_yes (f := fun s => odB o s.data.toList) hlt2 h))
        have HNO := Lib.hid (fun h => congrArg List.length (filter_no (f := fun s => odB o s.data.toList) hlt2 h))
        have hob : odB o xs[j].data.toList = ((cnt xs[j].data.toList : Int) == o) := rfl
        simp only [List.length_append, List.length_singleton] at HYES
        generalize ((xs.take j).filter (fun s => odB o s.data.toList)).length = y at HYES HNO hfl ⊢
        have hyi : (y : Int) ≤ 900 := by omega
        generalize odB o xs[j].data.toList = ob at HYES HNO hob
        generalize cnt xs[j].data.toList = cc at HC hob
        generalize xs[j] = s at q HC
        cases ob
        · have HNO2 := Lib.hid (HNO.out rfl)
          have heq := hob.symm
          clear hlt2 hob
          go_wp2_with (go_at_call 46; refine (HC.out _).mono ?_; rintro e w' ⟨rfl, rfl⟩)
          exact ⟨⟨j + 1, hlt, by go_num, by rw [HNO2.out], by first | rfl | trivial⟩, by simp [intOf]; omega⟩
        · have HYES2 := Lib.hid (HYES.out rfl)
          have heq := hob.symm
          clear hlt2 hob
          go_wp2_with (go_at_call 46; refine (HC.out _).mono ?_; rintro e w' ⟨rfl, rfl⟩)
          exact ⟨⟨j + 1, hlt, by go_num, by rw [HYES2.out]; rfl, by first | rfl | trivial⟩, by simp [intOf]; omega⟩
      · obtain rfl : j = M := by omega
        have hjj : ¬ ((j : Int) < (j : Int)) := by omega
        have HTK : Hid (xs.take j = xs) := Lib.hid (by rw [HML.out]; exact List.take_length)
        rw [HTK.out]
        go_wp2_with fail
        go_ret2
        exact ⟨rfl, HB2.out⟩

set_option maxHeartbeats 2000000 in
theorem iCountPrimitive (k o : Int) (w : World) (htab : Tab w) (hm : TabM w) :
    Calls Tryd.prog 22 #[.int .i64 k, .int .i64 o] w fun e w' => e = .returned (.tuple #[.int .i64 (cpA k o), .bool (askP k o)]) ∧ Below w.heap.size w w' := by
  cases ha : askP k o
  · have HY := Lib.hid (cpA_no ha)
    have HI := Lib.hid (fun w => isTurnLength_any k w)
    clear htab hm
    cases hi : inB k 1 10
    · rw [hi] at HI
      clear ha hi
      go_enter Tryd.func22, Tryd.ntmps22
      go_wp2_with (go_at_call 37; refine (HI.out _).mono ?_; rintro e w' ⟨rfl, rfl⟩)
      go_ret2
      exact ⟨ret_nk HY.out.symm rfl, Below.refl _ _⟩
    · have hb : inB o 0 k = false := by rw [askP, hi] at ha; exact ha
      have hb2 : ¬ (0 ≤ o ∧ o ≤ k) := by simpa [inB] using hb
      rw [hi] at HI
      by_cases o0 : o < 0
      · have hd0 : decide (o < 0) = true := by simpa using o0
        clear ha hi hb hb2 o0
        go_enter Tryd.func22, Tryd.ntmps22
        go_wp2_with (go_at_call 37; refine (HI.out _).mono ?_; rintro e w' ⟨rfl, rfl⟩)
        go_ret2
        exact ⟨ret_nk HY.out.symm rfl, Below.refl _ _⟩
      · have hd0 : decide (o < 0) = false := by simpa using o0
        have hd1 : decide (k < o) = true := by simp; omega
        clear ha hi hb hb2 o0
        go_enter Tryd.func22, Tryd.ntmps22
        go_wp2_with (go_at_call 37; refine (HI.out _).mono ?_; rintro e w' ⟨rfl, rfl⟩)
        go_ret2
        exact ⟨ret_nk HY.out.symm rfl, Below.refl _ _⟩
  · obtain ⟨⟨k1, k2⟩, o0, o1⟩ := askP_iff.1 ha
    obtain ⟨L, rfl⟩ : ∃ L : Nat, k = L := ⟨k.toNat, by omega⟩
    rw [cpA_yes ha]
    exact iCountPrimitive_yes L o w (by omega) (by omega) o0 o1 htab hm



set_option maxRecDepth 100000 in
set_option maxHeartbeats 8000000 in
theorem sCountPrimitive_yes (L : Nat) (o : Int) (w : World) (h1 : 1 ≤ L) (hL : L ≤ 10) (o0 : 0 ≤ o) (o1 : o ≤ L) :
    Calls Tryd.prog 23 #[.int .i64 (L : Int), .int .i64 o] w fun e w' => e = .returned (.tuple #[.int .i64 ((cpX L o).length : Nat), .bool true]) ∧ Below w.heap.size w w' := by
  have HI := Lib.hid (fun w => l1In_any (L : Int) 1 10 w)
  have HJ := Lib.hid (fun w => l1In_any o 0 (L : Int) w)
  rw [show inB (L : Int) 1 10 = true by simp [inB]; omega] at HI
  rw [show inB o 0 (L : Int) = true by simp [inB]; omega] at HJ
  have HCW := Lib.hid (cyWords_any L w hL)
  have hN := pow2_1024 hL
  have hNp := pow2_pos L
  unfold cpX
  obtain ⟨N, hNN⟩ : ∃ N, 2 ^ L = N := ⟨_, rfl⟩
  rw [hNN] at hN hNp HCW ⊢
  have hNi : (N : Int) ≤ 1024 := by omega
  have hL1 : (L : Int) ≤ 10 := by omega
  clear hNN
  go_enter Tryd.func23, Tryd.ntmps23
  go_wp2_with (first | (go_at_call 39; refine (HI.out _).mono ?_; clear HI; rintro e w' ⟨rfl, rfl⟩) | (go_at_call 39; refine (HJ.out _).mono ?_; clear HJ; rintro e w' ⟨rfl, rfl⟩))
  refine HCW.out.mono ?_
  rintro e w1 ⟨v1, rfl, hrow1, hb1⟩
  obtain ⟨g, cap, rfl, hg1, hg2, hrow⟩ := strs_row hrow1 (by rw [allX_length]; exact hNp)
  rw [allX_length]
  have HROW := Lib.hid hrow
  have HB1 := Lib.hid hb1
  clear hrow hrow1 hb1 hg1
  go_wp2_with fail
  go_loopw [6, 23] (fun c x wr => ∃ j : Nat, j ≤ N ∧ x = .int .i64 j ∧ c = .int .i64 ((selX (fun l => ftB l && odB o l) L j).length : Nat) ∧ Below w1.heap.size w1 wr) (fun _ x _ => N - (intOf x).toNat)
  case atStart => exact ⟨0, by omega, rfl, rfl, Below.refl _ _⟩
  case round =>
    obtain ⟨j, hj, rfl, rfl, hbs⟩ := hrel
    have HBS := Lib.hid hbs
    have hsz := hbs.size
    have hlen := selX_le (fun l => ftB l && odB o l) L j
    clear hbs
    by_cases hlt : j < N
    · have hjN : (j : Int) < (N : Int) := by omega
      have q : wr.cell? ⟨g, j, none⟩ = some (.string (bts (pw j L))) := by
        rw [HBS.out.cell (p := ⟨g, j, none⟩) hg2, (HROW.out j (by rw [allX_length]; exact hlt)).1, allX_at hlt]
      have HP := Lib.hid (fun w => cyPrimitive_any (pw j L) w (by rw [pw_length]; exact h1) (by rw [pw_length]; exact hL))
      have HLT := Lib.hid (fun w => cyFirst_pw j L w hL)
      have heq := eq_least2 (pw j L)
      have HYES := Lib.hid (fun h => congrArg List.length (selX_yes (f := fun l => ftB l && odB o l) (L := L) (n := j) h))
      have HNO := Lib.hid (fun h => congrArg List.length (selX_no (f := fun l => ftB l && odB o l) (L := L) (n := j) h))
      have HFT : Hid (ftB (pw j L) = (primB (pw j L) && (leastT (pw j L) == pw j L))) := Lib.hid rfl
      have hob : odB o (pw j L) = ((cnt (bts (pw j L)).data.toList : Int) == o) := rfl
      have HSG : Hid (Signs (bts (pw j L)).data.toList) := Lib.hid (pw_signs j L)
      have hsl : (bts (pw j L)).size = L := by rw [bts_size, pw_length]
      have HLT2 := Lib.hid (fun w => HLT.out w)
      simp only [List.length_append, List.length_singleton] at HYES
      generalize ftB (pw j L) = ft at HYES HNO HFT
      generalize (leastT (pw j L) == pw j L) = le at HFT heq
      generalize primB (pw j L) = pb at HP HFT
      generalize odB o (pw j L) = ob at HYES HNO hob
      generalize (selX (fun l => ftB l && odB o l) L j).length = y at HYES HNO hlen ⊢
      have hyi : (y : Int) ≤ 1024 := by omega
      generalize leastT (pw j L) = lt at HLT heq
      generalize bts (pw j L) = s at *
      have HOB := Lib.hid hob
      have hs10 : (s.size : Int) ≤ 10 := by omega
      have hs11 : s.size ≤ 10 := by omega
      clear hob HLT2 hsl
      obtain ⟨wo, rfl⟩ : ∃ wo : World, wo = wr := ⟨_, rfl⟩
      go_wp2_with fail
      go_loopw [9] (fun c wr => ∃ pos : Nat, wr = wo.iter s pos ∧ pos ≤ s.size ∧ c = .int .i64 (cnt (s.data.toList.take pos) : Nat)) (fun _ wr => s.size - wr.iterPos wo.heap.size)
      case atStart => exact ⟨0, rfl, by omega, rfl⟩
      case round =>
        obtain ⟨pos, rfl, hp, rfl⟩ := hrel
        by_cases hlp : pos < s.size
        · have hsg := HSG.out s[pos] (List.getElem_mem (l := s.data.toList) (n := pos) (by simpa using hlp))
          have hct := cnt_take hlp
          have hcl2 : ((cnt (s.data.toList.take pos) : Nat) : Int) ≤ 10 := by
            have := cnt_le (s.data.toList.take pos)
            have := List.length_take_le pos s.data.toList
            omega
          have hix := fun w => run_at w s pos hlp
          have hlp2 : (pos : Int) < s.size := by omega
          obtain ⟨c, hc⟩ : ∃ c, c = cnt (s.data.toList.take pos) := ⟨_, rfl⟩
          rw [← hc] at hct hcl2 ⊢
          clear hc
          by_cases hc1 : s[pos] = 111
          · have n1 : s[pos].toNat = 111 := by rw [hc1]; rfl
            rw [if_pos hc1] at hct
            have HCT := Lib.hid hct
            have hnx : ∀ ty, (Instr.next (.pointer (some ⟨wo.heap.size, 0, none⟩)) true ty).run Tryd.prog (wo.iter s pos) = _ := fun ty => run_next_ascii wo s pos ty hlp (by omega)
            simp only [n1] at hix
            clear hc1 hct hsg
            go_wp2_with fail
            exact ⟨⟨pos + 1, rfl, hlp, by rw [HCT.out]; go_num⟩, by simp; omega⟩
          · have hc2 := hsg.resolve_left hc1
            have n1 : s[pos].toNat = 101 := by rw [hc2]; rfl
            rw [if_neg hc1] at hct
            have HCT := Lib.hid hct
            have hnx : ∀ ty, (Instr.next (.pointer (some ⟨wo.heap.size, 0, none⟩)) true ty).run Tryd.prog (wo.iter s pos) = _ := fun ty => run_next_ascii wo s pos ty hlp (by omega)
            simp only [n1] at hix
            clear hc1 hc2 hct hsg
            go_wp2_with fail
            exact ⟨⟨pos + 1, rfl, hlp, by rw [HCT.out]; rfl⟩, by simp; omega⟩
        · obtain rfl : pos = s.size := by omega
          have hnx : ∀ ty, (Instr.next (.pointer (some ⟨wo.heap.size, 0, none⟩)) true ty).run Tryd.prog (wo.iter s s.size) = _ := fun ty => run_next_end wo s s.size ty hlp
          have HTK : Hid (s.data.toList.take s.size = s.data.toList) := Lib.hid (List.take_of_length_le (by simp))
          have HBI := Lib.hid (HBS.out.trans ((below_iter wo s s.size).mono hsz))
          rw [HTK.out]
          have hob := HOB.out
          generalize cnt s.data.toList = cc at hob ⊢
          cases ob
          · have HNO2 := Lib.hid (HNO.out (by rw [Bool.and_false]))
            have hoe := hob.symm
            clear hob heq
            go_wp2_with fail
            exact ⟨⟨j + 1, hlt, by go_num, by rw [HNO2.out], HBI.out⟩, by simp [intOf]; omega⟩
          · have hoe := hob.symm
            clear hob
            cases pb
            · have HNO2 := Lib.hid (HNO.out (by rw [HFT.out]; rfl))
              clear heq
              go_wp2_with fail
              refine (HP.out _).mono ?_
              rintro e w3 ⟨rfl, hb3⟩
              have HB3 := Lib.hid (HBI.out.trans (hb3.mono HBI.out.size))
              clear hb3
              go_wp2_with fail
              exact ⟨⟨j + 1, hlt, by go_num, by rw [HNO2.out], HB3.out⟩, by simp [intOf]; omega⟩
            · cases le
              · have HNO2 := Lib.hid (HNO.out (by rw [HFT.out]; rfl))
                go_wp2_with fail
                refine (HP.out _).mono ?_
                rintro e w3 ⟨rfl, hb3⟩
                have HB3 := Lib.hid (HBI.out.trans (hb3.mono HBI.out.size))
                clear hb3
                go_wp2_with fail
                refine (HLT.out _).mono ?_
                rintro e w4 ⟨rfl, hb4⟩
                have HB4 := Lib.hid (HB3.out.trans (hb4.mono HB3.out.size))
                clear hb4
                go_wp2_with fail
                exact ⟨⟨j + 1, hlt, by go_num, by rw [HNO2.out], HB4.out⟩, by simp [intOf]; omega⟩
              · have HYES2 := Lib.hid (HYES.out (by rw [HFT.out]; rfl))
                go_wp2_with fail
                refine (HP.out _).mono ?_
                rintro e w3 ⟨rfl, hb3⟩
                have HB3 := Lib.hid (HBI.out.trans (hb3.mono HBI.out.size))
                clear hb3
                go_wp2_with fail
                refine (HLT.out _).mono ?_
                rintro e w4 ⟨rfl, hb4⟩
                have HB4 := Lib.hid (HB3.out.trans (hb4.mono HB3.out.size))
                clear hb4
                go_wp2_with fail
                exact ⟨⟨j + 1, hlt, by go_num, by rw [HYES2.out]; rfl, HB4.out⟩, by simp [intOf]; omega⟩
    · obtain rfl : j = N := by omega
      have hjj : ¬ ((j : Int) < (j : Int)) := by omega
      go_wp2_with fail
      go_ret2
      exact ⟨rfl, HB1.out.trans (HBS.out.mono HB1.out.size)⟩

set_option maxHeartbeats 2000000 in
theorem sCountPrimitive (k o : Int) (w : World) :
    Calls Tryd.prog 23 #[.int .i64 k, .int .i64 o] w fun e w' => e = .returned (.tuple #[.int .i64 (cpA k o), .bool (askP k o)]) ∧ Below w.heap.size w w' := by
  cases ha : askP k o
  · have HY := Lib.hid (cpA_no ha)
    have HI := Lib.hid (fun w => l1In_any k 1 10 w)
    have HJ := Lib.hid (fun w => l1In_any o 0 k w)
    cases hi : inB k 1 10
    · rw [hi] at HI
      clear ha hi
      go_enter Tryd.func23, Tryd.ntmps23
      go_wp2_with (go_at_call 39; refine (HI.out _).mono ?_; rintro e w' ⟨rfl, rfl⟩)
      go_ret2
      exact ⟨ret_nk HY.out.symm rfl, Below.refl _ _⟩
    · have hb : inB o 0 k = false := by rw [askP, hi] at ha; exact ha
      rw [hi] at HI
      rw [hb] at HJ
      clear ha hi hb
      go_enter Tryd.func23, Tryd.ntmps23
      go_wp2_with (first | (go_at_call 39; refine (HI.out _).mono ?_; clear HI; rintro e w' ⟨rfl, rfl⟩) | (go_at_call 39; refine (HJ.out _).mono ?_; clear HJ; rintro e w' ⟨rfl, rfl⟩))
      go_ret2
      exact ⟨ret_nk HY.out.symm rfl, Below.refl _ _⟩
  · obtain ⟨⟨k1, k2⟩, o0, o1⟩ := askP_iff.1 ha
    obtain ⟨L, rfl⟩ : ∃ L : Nat, k = L := ⟨k.toNat, by omega⟩
    rw [cpA_yes ha]
    exact sCountPrimitive_yes L o w (by omega) (by omega) o0 o1
end Go.Proofs.YtnhpoefhcngoaaaDoor
