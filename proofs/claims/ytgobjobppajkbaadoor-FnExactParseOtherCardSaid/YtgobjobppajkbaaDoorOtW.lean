/-
  'OtherText' of the model; the text of a part of the program.
-/
import Derived.Test.YtgobjobppajkbaaDoorOtS
import Derived.Test.YtgobjobppajkbaaDoorShelf
import Derived.Deep.RegionLaw
import Derived.Outline
namespace Go.Proofs.YtgobjobppajkbaaDoor
open Go.RowKit
set_option linter.unusedVariables false

theorem otX_no {ps : List Pt} (h : omB ps = false) : otX ps = byt [] := by rw [otX, if_neg (by rw [h]; simp)]
theorem otX_yes {ps : List Pt} (h : omB ps = true) : otX ps = byt (otT ps ps.length) := by rw [otX, if_pos h]
theorem ret_tb {x x' : ByteArray} {y y' : Bool} (h : x = x') (h' : y = y') : Ending.returned (.tuple #[.string x, .bool y]) = .returned (.tuple #[.string x', .bool y']) := by rw [h, h']

theorem itoaL (n : Int) : Lib.itoa n = if n < 0 then [45] ++ dgO (-n) else dgO n := by
  rw [Lib.itoa]
  split
  · have : n.natAbs = (-n).toNat := by omega
    rw [this]
    rfl
  · rfl
theorem itoa_o (x : Int) (h1 : -20 ≤ x) (h2 : x ≤ 20) (w : World) (htab : Tab w) :
    Calls Tryd.prog 87 #[.int .i64 x] w fun e w' => e = .returned (.string (byt (if x < 0 then [45] ++ dgO (-x) else dgO x))) ∧ Below w.heap.size w w' := by
  refine (Tryd.strconv_Itoa x (by omega) (by omega) w htab).mono ?_
  rintro e w' ⟨rfl, k, os, rfl⟩
  exact ⟨ret_byt (by rw [itoaL]; rfl), below_one k os⟩
/-- A number with its sign. -/
def siO (p : Int) : List UInt8 := sgO p ++ dgO (absO p)
theorem siO_len {p : Int} (h1 : -20 ≤ p) (h2 : p ≤ 20) : (siO p).length ≤ 3 := by
  have h3 : (dgO (absO p)).length ≤ 2 := dgO_len (by unfold absO; split <;> omega)
  have h4 : (sgO p).length = 1 := by unfold sgO; split <;> rfl
  rw [siO, List.length_append]
  omega
theorem signed_o (n : Int) (h1 : -20 ≤ n) (h2 : n ≤ 20) (w : World) (htab : Tab w) :
    Calls Tryd.prog 99 #[.int .i64 n] w fun e w' => e = .returned (.string (byt (siO n))) ∧ Below w.heap.size w w' := by
  have HC := Lib.hid (itoa_o n h1 h2 w htab)
  by_cases hn : n < 0
  · rw [if_pos hn] at HC
    have HE : Hid (siO n = [45] ++ dgO (-n)) := Lib.hid (by rw [siO, sgO, if_pos hn, absO, if_pos hn])
    rw [HE.out]
    clear htab HE
    go_enter Tryd.func99, Tryd.ntmps99
    go_wp2_with fail
    refine HC.out.mono ?_
    rintro e w' ⟨rfl, hb⟩
    go_wp2_with fail
    go_ret
    exact ⟨rfl, hb⟩
  · rw [if_neg hn] at HC
    have HE : Hid (siO n = [43] ++ dgO n) := Lib.hid (by rw [siO, sgO, if_neg hn, absO, if_neg hn])
    have hl := dgO_len h2
    have hadd : ∀ w, (Op.stringOp .add ⟨#[43]⟩ (byt (dgO n))).run Tryd.prog w = .ok (.string (byt ([43] ++ dgO n))) w := fun w => byt_add [43] (dgO n) (by simp; omega) w
    rw [HE.out]
    clear htab HE hl
    go_enter Tryd.func99, Tryd.ntmps99
    go_wp2_with fail
    refine HC.out.mono ?_
    rintro e w' ⟨rfl, hb⟩
    go_wp2_with fail
    go_ret
    exact ⟨rfl, hb⟩

set_option maxRecDepth 100000 in
set_option maxHeartbeats 8000000 in
theorem text_any (t p o : Int) (hin : ptIn (t, p, o) = true) (w : World) (htab : Tab w) :
    Calls Tryd.prog 91 #[.agg #[.int .i64 t, .int .i64 p, .int .i64 o]] w fun e w' => e = .returned (.string (byt (ptX (t, p, o)))) ∧ Below w.heap.size w w' := by
  obtain ⟨i1, i2, i3, i4, i5, i6⟩ := ptIn_iff.1 hin
  dsimp only at i1 i2 i3 i4 i5 i6
  have HB0 := Lib.hid (below_new w (.cells #[.int .i64 t, .int .i64 p, .int .i64 o] 118))
  have HT0 := Lib.hid (tab_below htab HB0.out)
  have q0 : (w.alloc (.cells #[.int .i64 t, .int .i64 p, .int .i64 o] 118)).cell? ⟨w.heap.size, 0, none⟩ = some (.int .i64 t) := by go_simp
  have q1 : (w.alloc (.cells #[.int .i64 t, .int .i64 p, .int .i64 o] 118)).cell? ⟨w.heap.size, 1, none⟩ = some (.int .i64 p) := by go_simp
  have q2 : (w.alloc (.cells #[.int .i64 t, .int .i64 p, .int .i64 o] 118)).cell? ⟨w.heap.size, 2, none⟩ = some (.int .i64 o) := by go_simp
  have HC := Lib.hid (fun (x : Int) (h : 0 ≤ x ∧ x ≤ 20) W (hb : Below (w.alloc (.cells #[.int .i64 t, .int .i64 p, .int .i64 o] 118)).heap.size (w.alloc (.cells #[.int .i64 t, .int .i64 p, .int .i64 o] 118)) W) => by
    have := itoa_o x (by omega) h.2 W (tab_below HT0.out hb)
    rw [if_neg (by omega)] at this
    exact this)
  have HSG := Lib.hid (fun W (hb : Below (w.alloc (.cells #[.int .i64 t, .int .i64 p, .int .i64 o] 118)).heap.size (w.alloc (.cells #[.int .i64 t, .int .i64 p, .int .i64 o] 118)) W) => signed_o p i3 i4 W (tab_below HT0.out hb))
  have HTB : Hid (0 ≤ t ∧ t ≤ 20) := Lib.hid (by omega)
  have HOB : Hid (0 ≤ o ∧ o ≤ 20) := Lib.hid (by omega)
  have hd1 := dgO_len i2
  have hd2 := siO_len i3 i4
  have hd3 := dgO_len i6
  have HE : Hid (ptX (t, p, o) = dgO t ++ [110] ++ siO p ++ [47] ++ dgO o) := Lib.hid (by simp [ptX, siO, List.append_assoc])
  have hadd1 : ∀ w, (Op.stringOp .add (byt (dgO t)) ⟨#[110]⟩).run Tryd.prog w = .ok (.string (byt (dgO t ++ [110]))) w := fun w => byt_add _ [110] (by simp; omega) w
  have hadd2 : ∀ w, (Op.stringOp .add (byt (dgO t ++ [110])) (byt (siO p))).run Tryd.prog w = .ok (.string (byt (dgO t ++ [110] ++ siO p))) w := fun w => byt_add _ _ (by simp; omega) w
  have hadd3 : ∀ w, (Op.stringOp .add (byt (dgO t ++ [110] ++ siO p)) ⟨#[47]⟩).run Tryd.prog w = .ok (.string (byt (dgO t ++ [110] ++ siO p ++ [47]))) w := fun w => byt_add _ [47] (by simp; omega) w
  have hadd4 : ∀ w, (Op.stringOp .add (byt (dgO t ++ [110] ++ siO p ++ [47])) (byt (dgO o))).run Tryd.prog w = .ok (.string (byt (dgO t ++ [110] ++ siO p ++ [47] ++ dgO o))) w := fun w => byt_add _ _ (by simp; omega) w
  rw [HE.out]
  generalize dgO t ++ [110] ++ siO p ++ [47] ++ dgO o = F5 at *
  generalize hf4 : dgO t ++ [110] ++ siO p ++ [47] = F4 at *
  generalize hf3 : dgO t ++ [110] ++ siO p = F3 at *
  generalize hf2 : dgO t ++ [110] = F2 at *
  clear hf4 hf3 hf2 HE hin hd1 hd2 hd3 htab HT0
  go_enter Tryd.func91, Tryd.ntmps91
  go_wp2_with fail
  go_region_law (go_simp; first
    | (go_at_call 99; refine (HSG.out _ (by first | exact HB3.out | exact HB3.out.drew | exact HB3.out.drew.drew)).mono ?_; rintro e w4 ⟨rfl, hb4⟩; have HB4 : Hid (Below (w.alloc (.cells #[.int .i64 t, .int .i64 p, .int .i64 o] 118)).heap.size (w.alloc (.cells #[.int .i64 t, .int .i64 p, .int .i64 o] 118)) w4) := Lib.hid (HB3.out.trans (by first | exact hb4.mono HB3.out.size | exact ((Below.refl _ _).drew.trans hb4).mono HB3.out.size | exact ((Below.refl _ _).drew.drew.trans hb4).mono HB3.out.size)); clear hb4; obtain ⟨⟨m0, m1, m2⟩, _, _⟩ := one_block HB4.out)
    | (go_at_call 87; first
      | (refine (HC.out _ HOB.out _ (by first | exact HB4.out | exact HB4.out.drew | exact HB4.out.drew.drew)).mono ?_; rintro e w5 ⟨rfl, hb5⟩; have HB5 : Hid (Below (w.alloc (.cells #[.int .i64 t, .int .i64 p, .int .i64 o] 118)).heap.size (w.alloc (.cells #[.int .i64 t, .int .i64 p, .int .i64 o] 118)) w5) := Lib.hid (HB4.out.trans (by first | exact hb5.mono HB4.out.size | exact ((Below.refl _ _).drew.trans hb5).mono HB4.out.size | exact ((Below.refl _ _).drew.drew.trans hb5).mono HB4.out.size)); clear hb5; obtain ⟨⟨m0, m1, m2⟩, _, _⟩ := one_block HB5.out)
      | (refine (HC.out _ HTB.out _ (by first | exact Below.refl _ _ | exact (Below.refl _ _).drew | exact (Below.refl _ _).drew.drew)).mono ?_; rintro e w3 ⟨rfl, hb3⟩; have HB3 : Hid (Below (w.alloc (.cells #[.int .i64 t, .int .i64 p, .int .i64 o] 118)).heap.size (w.alloc (.cells #[.int .i64 t, .int .i64 p, .int .i64 o] 118)) w3) := Lib.hid (by first | exact hb3 | exact (Below.refl _ _).drew.trans hb3 | exact (Below.refl _ _).drew.drew.trans hb3); clear hb3; obtain ⟨⟨m0, m1, m2⟩, _, _⟩ := one_block HB3.out)))
  all_goals
    go_wp2_with fail
    go_ret
    exact ⟨rfl, by first | exact HB0.out.trans (HB5.out.mono HB0.out.size) | exact (HB0.out.trans (HB5.out.mono HB0.out.size)).drew | exact (HB0.out.trans (HB5.out.mono HB0.out.size)).drew.drew⟩
end Go.Proofs.YtgobjobppajkbaaDoor
