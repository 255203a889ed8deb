/-
  'PuzzleText' of the program.
-/
import Derived.Test.YtgobjobppajkbaaDoorPtW
import Derived.Test.YtgobjobppajkbaaDoorPzJ
import Derived.Deep.AppendLies
import Derived.Outline
namespace Go.Proofs.YtgobjobppajkbaaDoor
open Go.RowKit
set_option linter.unusedVariables false

theorem infoStrP : (Tryd.prog.info? 9).map (fun i => (i.zero, i.size, i.bytes)) = some (some (.string ⟨#[]⟩), 1, 16) := by kernel_rfl
/-- The first j texts. -/
def czL (ps : List Pt) (j : Nat) : List ByteArray := (List.range j).map fun i => byt (clX (ps.getD i pt0))
theorem czL_next (ps : List Pt) (j : Nat) : czL ps (j + 1) = czL ps j ++ [byt (clX (ps.getD j pt0))] := by simp [czL, List.range_succ]
theorem czL_len (ps : List Pt) (j : Nat) : (czL ps j).length = j := by simp [czL]
theorem czL_join (ps : List Pt) (j : Nat) : Lib.join ((czL ps j).map (·.data.toList)) [44] = czT ps j := by
  unfold czL czT
  rw [List.map_map]
  rfl

/-- No texts. -/
theorem join_none (a : Option Addr) (cap : Nat) (sep : ByteArray) (w : World) : Calls Tryd.prog 63 #[.slice a 0 cap, .string sep] w fun e w' => e = .returned (.string (byt [])) ∧ w = w' := by
  go_enter Tryd.func63, Tryd.ntmps63
  go_wp2_with fail
  go_ret
  exact ⟨rfl, rfl⟩
set_option maxRecDepth 100000 in
set_option maxHeartbeats 4000000 in
theorem iPuzzleText (mt mp : Int) (ps : List Pt) (v : Value) (w : World) (l : ps.length ≤ 1048576) (htab : Tab w) (h : PuzIn w v mt mp ps) :
    Calls Tryd.prog 27 #[v] w fun e w' => e = .returned (.tuple #[.string (pzX mt mp ps), .bool (pzB mt mp ps)]) ∧ Below w.heap.size w w' := by
  have HT := Lib.hid htab
  clear htab
  have HM := Lib.hid (fun W (hb : Below w.heap.size w W) => h.kept hb)
  obtain ⟨v1, rfl, i1⟩ := h.parts
  have B := Lib.hid (Bz.new w mt mp v1 55)
  have HB := Lib.hid (below_new w (.cells #[.int .i64 mt, .int .i64 mp, v1] 55))
  have M := Lib.hid (HM.out _ HB.out)
  have HG := Lib.hid (fun W hm => isPuzzle_any mt mp ps (.agg #[.int .i64 mt, .int .i64 mp, v1]) W l hm)
  clear h
  rcases hg : pzB mt mp ps with _ | _
  · have HE := Lib.hid (pzX_no hg)
    rw [hg] at HG
    clear hg i1
    go_enter Tryd.func27, Tryd.ntmps27
    go_wp2_with fail
    refine (HG.out _ M.out).mono ?_
    rintro e w1 ⟨rfl, hb1⟩
    replace HB := Lib.hid (HB.out.trans (hb1.mono HB.out.size))
    clear hb1
    go_wp2_with fail
    go_ret2
    exact ⟨ret_tbP HE.out.symm rfl, HB.out⟩
  have HE := Lib.hid (pzX_yes hg)
  obtain ⟨hgm, hl8, hcl⟩ := pzB_iff.1 hg
  have HIN := Lib.hid (fun i (hi : i < ps.length) => clIn_of (q := ps.getD i pt0) (by
    have := List.all_eq_true.1 hcl (ps.getD i pt0) (by rw [List.getD_eq_getElem?_getD, List.getElem?_eq_getElem hi]; simp)
    exact this))
  have HML := Lib.hid (czT_len (ps := ps) (K := ps.length) HIN.out)
  have HIM : Hid (∀ W, Tab W → Calls Tryd.prog 61 #[.agg #[.int .i64 mt, .int .i64 mp]] W fun e w' => e = .returned (.tuple #[.string (byt (mtx mt mp)), .bool true]) ∧ Below W.heap.size W w') := Lib.hid (fun W ht => by
    have := iMapText mt mp W ht
    rwa [mpt, if_pos hgm, hgm] at this)
  have hml0 : (mtx mt mp).length ≤ 10 := by have := hdP_len mt mp; simp [hdP] at this; omega
  have haddm : ∀ w, (Op.stringOp .add (byt (mtx mt mp)) ⟨#[58]⟩).run Tryd.prog w = .ok (.string (byt (hdP mt mp))) w := fun w => byt_add _ [58] (by simp; omega) w
  rw [hg] at HG
  obtain ⟨a1, c1, rfl, hx⟩ := i1.rd
  have HX := Lib.hid hx
  obtain ⟨K, hK⟩ : ∃ K, ps.length = K := ⟨_, rfl⟩
  rw [hK] at HX HIN HML hl8 HE B M HB HG ⊢
  have haddf : ∀ w, (Op.stringOp .add (byt (hdP mt mp)) (byt (czT ps K))).run Tryd.prog w = .ok (.string (byt (pzT mt mp ps K))) w := fun w => byt_add _ _ (by have := HML.out K (Nat.le_refl _); have := hdP_len mt mp; omega) w
  obtain ⟨i0, hi, hi0, hi1, hi2⟩ := info_parts infoStrP
  clear hg i1 hx l hcl hml0 hgm
  go_enter Tryd.func27, Tryd.ntmps27
  go_wp2_with fail
  refine (HG.out _ M.out).mono ?_
  rintro e w1 ⟨rfl, hb1⟩
  replace B := Lib.hid (B.out.kept hb1)
  replace HB := Lib.hid (HB.out.trans (hb1.mono HB.out.size))
  clear hb1 M HG
  obtain ⟨⟨p0, p1, p2⟩, p3⟩ := B.out
  go_wp2_with fail
  refine (HIM.out _ (tab_below HT.out HB.out)).mono ?_
  rintro e w2 ⟨rfl, hb2⟩
  clear p0 p1 p2 p3
  replace B := Lib.hid (B.out.kept hb2)
  replace HB := Lib.hid (HB.out.trans (hb2.mono HB.out.size))
  clear hb2 HIM
  obtain ⟨⟨p0, p1, p2⟩, p3⟩ := B.out
  go_wp2_with fail
  clear p0 p1 p2
  go_loopw [6, 8, 21] (fun v _ x wr => ∃ j : Nat, j ≤ K ∧ x = .int .i64 j ∧ wr.ownsRow w2.heap.size 9 1 v j ((czL ps j).map Value.string) ∧ Below w2.heap.size w2 wr) (fun _ _ x _ => K - (RowKit.intOf x).toNat)
  case atStart => exact ⟨0, by omega, rfl, World.ownsRow_nil _ _ _ _, Below.refl _ _⟩
  case round =>
    obtain ⟨j, hj, rfl, hown, hbr⟩ := hrel
    have HO := Lib.hid hown
    have HBR := Lib.hid hbr
    have hszr := hbr.size
    have HW := Lib.hid (HB.out.trans (hbr.mono HB.out.size))
    by_cases hlt : j < K
    · obtain ⟨g, rfl, hg, q⟩ := HX.out j hlt
      have q2 := q.of (HW.out.block g hg)
      have HTK := Lib.hid (czL_next ps j)
      have hin := HIN.out j hlt
      clear q haddf haddm
      obtain ⟨pt, hpt⟩ : ∃ pt, ps.getD j pt0 = pt := ⟨_, rfl⟩
      rw [hpt] at q2 hin HTK
      obtain ⟨t, p, o⟩ := pt
      obtain ⟨k0, k1, k2⟩ := q2
      dsimp only at k0 k1 k2
      have HC := Lib.hid (fun W (hb : Below wr.heap.size wr W) => clText_any t p o hin W (tab_below HT.out (HW.out.trans (hb.mono HW.out.size))))
      have HBA := Lib.hid (below_new wr (.cells #[.int .i64 t, .int .i64 p, .int .i64 o] 93))
      have hlt2 : (j : Int) < (K : Int) := by omega
      have hj0 : (0 : Int) ≤ (j : Int) := by omega
      have hj3 : j + 1 ≤ maxLen := by unfold maxLen; omega
      generalize byt (clX (t, p, o)) = F at *
      clear hown hbr hpt hin
      go_wp2_with fail
      refine (HC.out _ HBA.out).mono ?_
      rintro e w3 ⟨rfl, hb3⟩
      have HB3 := Lib.hid (HBR.out.trans ((HBA.out.trans (hb3.mono HBA.out.size)).mono hszr))
      have HO3 := Lib.hid (ownsRow_kept HO.out (HBA.out.trans (hb3.mono HBA.out.size)))
      have hsz3 := HB3.out.size
      clear hb3 k0 k1 k2
      go_wp2_with (at_builtin; refine wpList_append_own _ rfl _ _ 91 rfl w2.heap.size 9 i0 (.string ⟨#[]⟩) 1 16 Tryd.underlying91 hi hi0 hi1 hi2 rfl (by decide) _ _ _ rfl (HO3.out.alloc _) ⟨w3.heap.size, 0, none⟩ 1 1 [.string F] rfl rfl ?c1 ?c2 ?c3 ?c4 ?c5 ?_; rotate_right; intro v' w4 hown4 hgrow _)
      case c1 => exact fun j u hu => new_cell _ _ _ hu
      case c2 => simp [Value.oneCell']
      case c3 => exact hj3
      case c4 => omega
      case c5 => simp; omega
      have hbg : Below w2.heap.size w3 w4 := ((Below.refl w2.heap.size w3).alloc (by omega) _).grown hgrow (by simp; omega) (fun k e => (HO3.out.lt k e).1)
      refine ⟨⟨j + 1, hlt, by go_num, ?_, HB3.out.trans hbg⟩, by simp [intOf]; omega⟩
      rw [HTK.out, List.map_append]
      exact hown4
    · obtain rfl : j = K := by omega
      have hjj : ¬ ((j : Int) < (j : Int)) := by omega
      have HJ : Hid (∀ a cap, (j = 0 ∨ ∃ g, a = some ⟨g, 0, none⟩ ∧ j ≤ cap ∧ g < wr.heap.size ∧ wr.ownsRow w2.heap.size 9 1 (.slice a j cap) j ((czL ps j).map Value.string)) → Calls Tryd.prog 63 #[.slice a j cap, .string ⟨#[44]⟩] wr fun e w' => e = .returned (.string (byt (czT ps j))) ∧ Below wr.heap.size wr w') := Lib.hid (by
        intro a cap h
        rcases h with rfl | ⟨g, rfl, hcap, hg2, ho⟩
        · exact (join_none _ _ _ _).mono (by rintro e w' ⟨rfl, rfl⟩; exact ⟨rfl, Below.refl _ _⟩)
        · have := (Tryd.strings_Join g 0 cap (czL ps j) ⟨#[44]⟩ wr (fun i x hx => by
            have hi : i < j := by have := (List.getElem?_eq_some_iff.1 hx).1; rwa [czL_len] at this
            rw [Nat.zero_add, World.ownsRow.cellAt ho i (by omega), List.getElem?_map, hx]
            rfl) hg2 (by rw [czL_len]; omega) (by rw [czL_len]; exact hcap) (by
            have := HML.out j (Nat.le_refl _)
            rw [show (⟨#[44]⟩ : ByteArray).data.toList = [44] from rfl, czL_join]
            omega))
          rw [czL_len] at this
          refine this.mono ?_
          rintro e w' ⟨rfl, hb⟩
          exact ⟨ret_byt (congrArg byt (czL_join ps j)), hb⟩)
      clear hbr
      rcases hown.2 with ⟨rfl, h0⟩ | ⟨g', cap', cur, rfl, hB', hh', hn', hm', hs', hx'⟩
      · have HJ2 := Lib.hid (HJ.out none 0 (.inl h0))
        subst h0
        clear hown HJ HO
        go_wp2_with fail
        refine HJ2.out.mono ?_
        rintro e w4 ⟨rfl, hb4⟩
        go_wp2_with fail
        go_ret2
        exact ⟨ret_tbP (by rw [HE.out]) rfl, HW.out.trans (hb4.mono HW.out.size)⟩
      · have HJ2 := Lib.hid (HJ.out (some ⟨g', 0, none⟩) cap' (.inr ⟨g', rfl, hn', (Array.getElem?_eq_some_iff.1 hh').1, hown⟩))
        clear hown HJ HO hh' hs' hx'
        go_wp2_with fail
        refine HJ2.out.mono ?_
        rintro e w4 ⟨rfl, hb4⟩
        go_wp2_with fail
        go_ret2
        exact ⟨ret_tbP (by rw [HE.out]) rfl, HW.out.trans (hb4.mono HW.out.size)⟩
end Go.Proofs.YtgobjobppajkbaaDoor
