/-
  'OtherText' of the program.
-/
import Derived.Test.YtgobjobppajkbaaDoorOtW
import Derived.Test.YtgobjobppajkbaaDoorOtI
import Derived.Deep.AppendLies
import Derived.Outline
namespace Go.Proofs.YtgobjobppajkbaaDoor
open Go.RowKit
set_option linter.unusedVariables false

theorem infoStr : (Tryd.prog.info? 9).map (fun i => (i.zero, i.size, i.bytes)) = some (some (.string ⟨#[]⟩), 1, 16) := by kernel_rfl
/-- The first j texts. -/
def otL (ps : List Pt) (j : Nat) : List ByteArray := (List.range j).map fun i => byt (ptX (ps.getD i pt0))
theorem otL_next (ps : List Pt) (j : Nat) : otL ps (j + 1) = otL ps j ++ [byt (ptX (ps.getD j pt0))] := by simp [otL, List.range_succ]
theorem otL_len (ps : List Pt) (j : Nat) : (otL ps j).length = j := by simp [otL]
theorem otL_join (ps : List Pt) (j : Nat) : Lib.join ((otL ps j).map (·.data.toList)) [59] = otT ps j := by
  unfold otL otT
  rw [List.map_map]
  rfl

set_option maxRecDepth 100000 in
set_option maxHeartbeats 4000000 in
theorem iOtherText (ps : List Pt) (v : Value) (w : World) (l : ps.length ≤ 1048576) (htab : Tab w) (h : OthIn w v ps) :
    Calls Tryd.prog 52 #[v] w fun e w' => e = .returned (.tuple #[.string (otX ps), .bool (omB ps)]) ∧ Below w.heap.size w w' := by
  have HT := Lib.hid htab
  clear htab
  obtain ⟨v1, rfl, i1⟩ := h
  have B := Lib.hid (Bo.new w v1 42)
  have M : Hid (OthIn (w.alloc (.cells #[v1] 42)) (.agg #[v1]) ps) := Lib.hid ⟨v1, rfl, i1.kept (below_new w (.cells #[v1] 42))⟩
  have HB := Lib.hid (below_new w (.cells #[v1] 42))
  have HG := Lib.hid (fun W hm => isOther_any ps (.agg #[v1]) W l hm)
  rcases hg : omB ps with _ | _
  · have HE := Lib.hid (otX_no hg)
    rw [hg] at HG
    clear hg i1
    go_enter Tryd.func52, Tryd.ntmps52
    go_wp2_with fail
    refine (HG.out _ M.out).mono ?_
    rintro e w1 ⟨rfl, hb1⟩
    replace HB := Lib.hid (HB.out.trans (hb1.mono HB.out.size))
    clear hb1
    go_wp2_with fail
    go_ret2
    exact ⟨ret_tb HE.out.symm rfl, HB.out⟩
  have HE := Lib.hid (otX_yes hg)
  have hl8 := omB_len hg
  have HIN := Lib.hid (fun i (hi : i < ps.length) => (ptOk_iff.1 (omB_at hg hi)).1)
  have HML := Lib.hid (otT_len (ps := ps) (K := ps.length) HIN.out)
  rw [hg] at HG
  obtain ⟨a1, c1, rfl, hx⟩ := i1.rd
  have HX := Lib.hid hx
  obtain ⟨K, hK⟩ : ∃ K, ps.length = K := ⟨_, rfl⟩
  rw [hK] at HX HIN HML hl8 HE B M HB HG ⊢
  obtain ⟨hK1, hK2⟩ := hl8
  obtain ⟨i0, hi, hi0, hi1, hi2⟩ := info_parts infoStr
  clear hg i1 hx l
  go_enter Tryd.func52, Tryd.ntmps52
  go_wp2_with fail
  refine (HG.out _ M.out).mono ?_
  rintro e w1 ⟨rfl, hb1⟩
  replace B := Lib.hid (B.out.kept hb1)
  replace HB := Lib.hid (HB.out.trans (hb1.mono HB.out.size))
  clear hb1 M HG
  obtain ⟨p0, p2⟩ := B.out
  go_wp2_with fail
  clear p0
  go_loopw [4, 6, 13] (fun v _ x wr => ∃ j : Nat, j ≤ K ∧ x = .int .i64 j ∧ wr.ownsRow w1.heap.size 9 1 v j ((otL ps j).map Value.string) ∧ Below w1.heap.size w1 wr) (fun _ _ x _ => K - (RowKit.intOf x).toNat)
  case atStart => exact ⟨0, by omega, rfl, World.ownsRow_nil _ _ _ _, Below.refl _ _⟩
  case round =>
    obtain ⟨j, hj, rfl, hown, hbr⟩ := hrel
    have HO := Lib.hid hown
    have HBR := Lib.hid hbr
    have hszr := hbr.size
    have HW := Lib.hid (HB.out.trans (hbr.mono HB.out.size))
    by_cases hlt : j < K
    · obtain ⟨g, rfl, hg, q⟩ := HX.out j hlt
      have q2 := q.of (HW.out.block g hg)
      have HTK := Lib.hid (otL_next ps j)
      have hin := HIN.out j hlt
      clear q
      obtain ⟨pt, hpt⟩ : ∃ pt, ps.getD j pt0 = pt := ⟨_, rfl⟩
      rw [hpt] at q2 hin HTK
      obtain ⟨t, p, o⟩ := pt
      obtain ⟨k0, k1, k2⟩ := q2
      dsimp only at k0 k1 k2
      have HC := Lib.hid (fun W (hb : Below wr.heap.size wr W) => text_any t p o hin W (tab_below HT.out (HW.out.trans (hb.mono HW.out.size))))
      have HBA := Lib.hid (below_new wr (.cells #[.int .i64 t, .int .i64 p, .int .i64 o] 118))
      have hlt2 : (j : Int) < (K : Int) := by omega
      have hj0 : (0 : Int) ≤ (j : Int) := by omega
      have hj3 : j + 1 ≤ maxLen := by unfold maxLen; omega
      generalize byt (ptX (t, p, o)) = F at *
      clear hown hbr hpt hin
      go_wp2_with fail
      refine (HC.out _ HBA.out).mono ?_
      rintro e w3 ⟨rfl, hb3⟩
      have HB3 := Lib.hid (HBR.out.trans ((HBA.out.trans (hb3.mono HBA.out.size)).mono hszr))
      have HO3 := Lib.hid (ownsRow_kept HO.out (HBA.out.trans (hb3.mono HBA.out.size)))
      have hsz3 := HB3.out.size
      clear hb3 k0 k1 k2
      go_wp2_with (at_builtin; refine wpList_append_own _ rfl _ _ 91 rfl w1.heap.size 9 i0 (.string ⟨#[]⟩) 1 16 Tryd.underlying91 hi hi0 hi1 hi2 rfl (by decide) _ _ _ rfl (HO3.out.alloc _) ⟨w3.heap.size, 0, none⟩ 1 1 [.string F] rfl rfl ?c1 ?c2 ?c3 ?c4 ?c5 ?_; rotate_right; intro v' w4 hown4 hgrow _)
      case c1 => exact fun j u hu => new_cell _ _ _ hu
      case c2 => simp [Value.oneCell']
      case c3 => exact hj3
      case c4 => omega
      case c5 => simp; omega
      have hbg : Below w1.heap.size w3 w4 := ((Below.refl w1.heap.size w3).alloc (by omega) _).grown hgrow (by simp; omega) (fun k e => (HO3.out.lt k e).1)
      refine ⟨⟨j + 1, hlt, by go_num, ?_, HB3.out.trans hbg⟩, by simp [intOf]; omega⟩
      rw [HTK.out, List.map_append]
      exact hown4
    · obtain rfl : j = K := by omega
      have hjj : ¬ ((j : Int) < (j : Int)) := by omega
      obtain ⟨g, cap, rfl, hg1, hg2⟩ := World.ownsRow.form hown (by omega)
      have hcap : j ≤ cap := by
        rcases HO.out.2 with ⟨_, h0⟩ | ⟨g', cap', cur, hv, _, _, hn, _⟩
        · omega
        · cases hv; exact hn
      have HJ := Lib.hid (Tryd.strings_Join g 0 cap (otL ps j) ⟨#[59]⟩ wr (fun i x hx => by
          have hi : i < j := by have := (List.getElem?_eq_some_iff.1 hx).1; rwa [otL_len] at this
          rw [Nat.zero_add, World.ownsRow.cellAt HO.out i (by omega), List.getElem?_map, hx]
          rfl) hg2 (by rw [otL_len]; omega) (by rw [otL_len]; exact hcap) (by
          have := HML.out j (Nat.le_refl _)
          rw [show (⟨#[59]⟩ : ByteArray).data.toList = [59] from rfl, otL_join]
          omega))
      rw [otL_len] at HJ
      clear hbr hown
      go_wp2_with fail
      refine HJ.out.mono ?_
      rintro e w4 ⟨rfl, hb4⟩
      go_wp2_with fail
      go_ret2
      refine ⟨ret_tb ?_ rfl, HW.out.trans (hb4.mono HW.out.size)⟩
      rw [HE.out]
      exact congrArg byt (otL_join ps j)
end Go.Proofs.YtgobjobppajkbaaDoor
