/-
  'l1Split' of the model.
-/
import Derived.Test.YtgobjobppajkbaaDoorRdS
import Derived.Test.YtgobjobppajkbaaDoorOwn
import Derived.Deep.AppendLies
import Derived.Outline
namespace Go.Proofs.YtgobjobppajkbaaDoor
open Go.RowKit
set_option linter.unusedVariables false

theorem infoStrS : (Tryd.prog.info? 9).map (fun i => (i.zero, i.size, i.bytes)) = some (some (.string ⟨#[]⟩), 1, 16) := by kernel_rfl
/-- Texts as values. -/
def txV (ps : List (List UInt8)) : List Value := ps.map fun p => .string (byt p)
theorem txV_snoc (ps : List (List UInt8)) (p : List UInt8) : txV (ps ++ [p]) = txV ps ++ [.string (byt p)] := by simp [txV]
theorem ext_mid (l : List UInt8) (f j : Nat) : (byt l).extract f j = byt ((l.drop f).take (j - f)) := by
  rw [Lib.extract_eq]; rfl
theorem ext_end (l : List UInt8) (f : Nat) : (byt l).extract f l.length = byt (l.drop f) := by
  rw [ext_mid, List.take_of_length_le (by simp)]
theorem mid_snoc {l : List UInt8} {f j : Nat} {b : UInt8} (hf : f ≤ j) (hb : l[j]? = some b) : (l.drop f).take (j + 1 - f) = (l.drop f).take (j - f) ++ [b] := by
  have hj := (List.getElem?_eq_some_iff.1 hb).1
  rw [show j + 1 - f = (j - f) + 1 by omega, List.take_add_one]
  have : (l.drop f)[j - f]? = some b := by rw [List.getElem?_drop, show f + (j - f) = j by omega]; exact hb
  rw [this]
  rfl
theorem drop_cut {l : List UInt8} {f j : Nat} {b : UInt8} (hf : f ≤ j) (hb : l[j]? = some b) : l.drop f = (l.drop f).take (j - f) ++ [b] ++ l.drop (j + 1) := by
  rw [← mid_snoc hf hb]
  conv => lhs; rw [← List.take_append_drop (j + 1 - f) (l.drop f)]
  rw [List.drop_drop, show f + (j + 1 - f) = j + 1 by omega]

set_option maxRecDepth 100000 in
set_option maxHeartbeats 4000000 in
theorem l1Split_any (l : List UInt8) (c : UInt8) (hl : l.length ≤ 1000) (w : World) :
    Calls Tryd.prog 80 #[.string (byt l), .int .u8 (c.toNat : Nat)] w fun e w' => ∃ v, e = .returned v ∧ w'.ownsRow w.heap.size 9 1 v (spl c l).length (txV (spl c l)) ∧ Below w.heap.size w w' := by
  have hsz : (((byt l).size : Nat) : Int) = (l.length : Int) := by rw [dbl]
  have HRUN := Lib.hid (fun k b h => run_atL l k b h)
  have HAT := Lib.hid (fun j (h : j < l.length) => (⟨l[j]'h, List.getElem?_eq_getElem h⟩ : ∃ b, l[j]? = some b))
  have HDL := Lib.hid (dbl l)
  have HEE := Lib.hid (fun f => ext_end l f)
  obtain ⟨L, hL⟩ : ∃ L, l.length = L := ⟨_, rfl⟩
  rw [hL] at hsz HAT HEE HDL hl
  have HDR : Hid (∀ f, L ≤ f → l.drop f = []) := Lib.hid (fun f h => List.drop_eq_nil_of_le (by omega))
  have HTK : Hid (∀ f, (l.drop f).take (L - f) = l.drop f) := Lib.hid (fun f => List.take_of_length_le (by simp; omega))
  obtain ⟨i0, hi, hi0, hi1, hi2⟩ := info_parts infoStrS
  have HSL := Lib.hid (show (spl c l).length ≤ L + 1 by rw [← hL]; exact spl_len c l)
  have hL1 : (L : Int) ≤ 1000 := by omega
  clear hL
  go_enter Tryd.func80, Tryd.ntmps80
  go_wp2_with fail
  go_loopw [5, 6, 7] (fun v fr i wr => ∃ (ps : List (List UInt8)) (f j : Nat), f ≤ j ∧ j ≤ L ∧ fr = .int .i64 f ∧ i = .int .i64 j ∧ spl c l = ps ++ spl c (l.drop f) ∧ c ∉ (l.drop f).take (j - f) ∧ wr.ownsRow w.heap.size 9 1 v ps.length (txV ps) ∧ Below w.heap.size w wr) (fun _ _ i _ => L - (RowKit.intOf i).toNat)
  case atStart => exact ⟨[], 0, 0, Nat.le_refl _, Nat.zero_le _, rfl, rfl, rfl, by simp, World.ownsRow_nil _ _ _ _, Below.refl _ _⟩
  case round =>
    obtain ⟨ps, f, j, hf, hj, rfl, rfl, hs, hn, hown, hb⟩ := hrel
    have HO := Lib.hid hown
    have HB := Lib.hid hb
    have HS := Lib.hid hs
    have HN := Lib.hid hn
    have hpl : ps.length ≤ 1001 := by
      have := HSL.out
      rw [hs, List.length_append] at this
      omega
    have hml : ps.length + 1 ≤ maxLen := by unfold maxLen; omega
    have hsz' := hb.size
    by_cases hlt : j < L
    · obtain ⟨b, hbj⟩ := HAT.out j hlt
      have hrun := HRUN.out j b hbj
      have hlt2 : (j : Int) < (L : Int) := by omega
      have hj0 : (0 : Int) ≤ (j : Int) := by omega
      by_cases hbc : b = c
      · subst hbc
        have HS2 : Hid (spl b l = (ps ++ [(l.drop f).take (j - f)]) ++ spl b (l.drop (j + 1))) := Lib.hid (by
          have e := spl_app (c := b) (l.drop (j + 1)) HN.out
          rw [← drop_cut hf hbj] at e
          rw [HS.out, e]
          simp)
        have HEX := Lib.hid (ext_mid l f j)
        have s1 : (0 : Int) ≤ (f : Int) := by omega
        have s2 : (f : Int) ≤ (j : Int) := by omega
        have s3 : (j : Int) ≤ (L : Int) := by omega
        clear hs hn hown hb hbj
        go_wp2_with (at_builtin; refine wpList_append_own _ rfl _ _ 91 rfl w.heap.size 9 i0 (.string ⟨#[]⟩) 1 16 Tryd.underlying91 hi hi0 hi1 hi2 rfl (by decide) _ _ _ rfl (HO.out.alloc _) ⟨wr.heap.size, 0, none⟩ 1 1 [.string ((byt l).extract f j)] rfl rfl ?c1 ?c2 ?c3 ?c4 ?c5 ?_; rotate_right; intro v' w4 hown4 hgrow _)
        case c1 => exact fun j u hu => new_cell _ _ _ hu
        case c2 => simp [Value.oneCell']
        case c3 => exact hml
        case c4 => omega
        case c5 => simp; omega
        have hbg : Below w.heap.size wr w4 := ((Below.refl w.heap.size wr).alloc (by omega) _).grown hgrow (by simp; omega) (fun k e => (HO.out.lt k e).1)
        refine ⟨⟨ps ++ [(l.drop f).take (j - f)], j + 1, j + 1, Nat.le_refl _, hlt, by go_num, by go_num, HS2.out, by simp, ?_, HB.out.trans hbg⟩, by simp [RowKit.intOf]; omega⟩
        rw [txV_snoc, List.length_append, ← HEX.out]
        exact hown4
      · have HN2 : Hid (c ∉ (l.drop f).take (j + 1 - f)) := Lib.hid (by
          rw [mid_snoc hf hbj]
          intro h
          rcases List.mem_append.1 h with h | h
          · exact HN.out h
          · exact hbc (List.mem_singleton.1 h).symm)
        have hnc : ¬ (((b.toNat : Nat) : Int) = ((c.toNat : Nat) : Int)) := fun h => hbc (UInt8.toNat_inj.1 (by omega))
        clear hs hn hown hb hbj
        go_wp2_with fail
        exact ⟨⟨ps, f, j + 1, by omega, hlt, rfl, by go_num, HS.out, HN2.out, HO.out, HB.out⟩, by simp [RowKit.intOf]; omega⟩
    · obtain rfl : j = L := by omega
      have hjj : ¬ ((j : Int) < (j : Int)) := by omega
      have HS2 : Hid (spl c l = ps ++ [l.drop f]) := Lib.hid (by
        rw [HS.out, spl_free (by have := HN.out; rwa [HTK.out] at this)])
      have HE2 := Lib.hid (HEE.out f)
      have s1 : (0 : Int) ≤ (f : Int) := by omega
      have s2 : (f : Int) ≤ (j : Int) := by omega
      have s3 : ((byt l).size : Nat) = j := HDL.out
      clear hs hn hown hb
      go_wp2_with (at_builtin; refine wpList_append_own _ rfl _ _ 91 rfl w.heap.size 9 i0 (.string ⟨#[]⟩) 1 16 Tryd.underlying91 hi hi0 hi1 hi2 rfl (by decide) _ _ _ rfl (HO.out.alloc _) ⟨wr.heap.size, 0, none⟩ 1 1 [.string ((byt l).extract f j)] rfl rfl ?c1 ?c2 ?c3 ?c4 ?c5 ?_; rotate_right; intro v' w4 hown4 hgrow _)
      case c2 => simp [Value.oneCell']
      case c4 => omega
      case c5 => omega
      go_ret
      have hbg : Below w.heap.size wr w4 := ((Below.refl w.heap.size wr).alloc (by omega) _).grown hgrow (by simp; omega) (fun k e => (HO.out.lt k e).1)
      refine ⟨_, rfl, ?_, HB.out.trans hbg⟩
      rw [HS2.out, txV_snoc, List.length_append, ← HE2.out]
      exact hown4
end Go.Proofs.YtgobjobppajkbaaDoor
