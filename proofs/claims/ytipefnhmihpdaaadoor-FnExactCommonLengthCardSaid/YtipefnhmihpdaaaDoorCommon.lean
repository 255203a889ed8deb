/-
  'CommonLength' of both.
-/
import Derived.Test.YtipefnhmihpdaaaDoorLeaf
import Derived.Test.YtipefnhmihpdaaaDoorTwo
import Derived.Shelf.Spec.TrailingZeros
import Derived.Lib.LaidTab
import Derived.Outline
namespace Go.Proofs.YtipefnhmihpdaaaDoor
open Go.RowKit
set_option linter.unusedVariables false

/-- The library's table, as numbers. -/
def db64tab : List Int := Lib.deBruijn64tab.map fun (n : Nat) => (n : Int)
/-- The library's table lies as its text lays it. -/
abbrev TabD (w : World) : Prop := Lib.TabIs Tryd.prog w "math/bits.deBruijn64tab" .u8 db64tab
theorem gDeb : Tryd.prog.globalNamed "math/bits.deBruijn64tab" = some 2 := by kernel_rfl
theorem tabD_lt {w : World} (h : TabD w) : 2 < w.heap.size := by
  unfold TabD Lib.TabIs World.var? at h
  rw [gDeb] at h
  simp only [Option.bind_some] at h
  rcases Nat.lt_or_ge 2 w.heap.size with h' | h'
  · exact h'
  · rw [Array.getElem?_eq_none h'] at h; cases h
theorem tabD_below {w w' : World} {B : Nat} (h : TabD w) (hb : Below B w w') (hB : w.heap.size ≤ B) : TabD w' := by
  have hl := tabD_lt h
  unfold TabD Lib.TabIs World.var? at h ⊢
  rw [gDeb] at h ⊢
  simp only [Option.bind_some] at h ⊢
  rw [hb.block _ (Nat.lt_of_lt_of_le hl hB)]
  exact h
theorem tabD_at {w : World} (h : TabD w) {k : Nat} (hk : k < 64) : w.cell? ⟨2, k, none⟩ = some (.int .u8 (Lib.deBruijn64tab.getD k 0 : Nat)) := by
  have hv := World.var?_cell gDeb h k
  rw [hv]
  have hlen : Lib.deBruijn64tab.length = 64 := rfl
  have : db64tab[k]? = some ((Lib.deBruijn64tab.getD k 0 : Nat) : Int) := by
    unfold db64tab
    rw [List.getElem?_map, List.getElem?_eq_getElem (by omega), List.getD_eq_getElem?_getD, List.getElem?_eq_getElem (by omega)]
    rfl
  rw [List.getElem?_toArray, List.getElem?_map, this]
  rfl

theorem tz64_core (x k idx : Nat) (w : World) (hx0 : ((x : Int) == 0) = false)
    (key : IntKind.u64.wrap (bits BinOp.and IntKind.u64 (x : Int) (IntKind.u64.wrap (-(x : Int))) * 285870213051353865) / 288230376151711744 = (idx : Int))
    (hi : idx < 64) (hk : k < 64) (hcell : w.cell? ⟨2, idx, none⟩ = some (.int .u8 k)) :
    Calls Tryd.prog 46 #[.int .u64 x] w fun e w' => e = .returned (.int .i64 k) ∧ w' = w := by
  go_enter Tryd.func46, Tryd.ntmps46
  go_wp2_with (simp only [key])
  go_ret
  exact ⟨rfl, rfl⟩
theorem tz64_w (x : Nat) (hx0 : x ≠ 0) (hx : x < 18446744073709551616) (w : World) (hT : TabD w) :
    Calls Tryd.prog 46 #[.int .u64 x] w fun e w' => e = .returned (.int .i64 (Lib.ctz 64 x : Nat)) ∧ w' = w := by
  obtain ⟨hlow, hk⟩ := Lib.lowest_bit 64 x hx0 hx
  obtain ⟨hi, htab⟩ := Lib.deBruijn64_at _ hk
  have hcell := tabD_at hT hi
  rw [htab] at hcell
  exact tz64_core x _ _ w (by simp; omega) (tz64_key x _ hx hx0 hlow) hi hk hcell
theorem tz_w (x : Nat) (hx0 : x ≠ 0) (hx : x < 18446744073709551616) (w : World) (hT : TabD w) :
    Calls Tryd.prog 33 #[.int .u64 x] w fun e w' => e = .returned (.int .i64 (Lib.ctz 64 x : Nat)) ∧ w' = w := by
  have HC := Lib.hid (tz64_w x hx0 hx w hT)
  generalize Lib.ctz 64 x = k at HC ⊢
  clear hT
  go_enter Tryd.func33, Tryd.ntmps33
  go_wp2_with fail
  refine HC.out.mono ?_
  rintro e w' ⟨rfl, rfl⟩
  go_wp2_with fail
  go_ret
  exact ⟨rfl, rfl⟩

theorem half_w {c : Int} (h : c % 2 = 0) : c.tdiv 2 = c / 2 := by rw [Int.tdiv_eq_ediv]; split <;> omega
set_option maxHeartbeats 1000000 in
theorem mpOdd_big (n : Int) (w : World) (h0 : n ≠ 0) (h1 : -2000000000000 ≤ n) (h2 : n ≤ 2000000000000) :
    Calls Tryd.prog 32 #[.int .i64 n] w fun e w' => e = .returned (.tuple #[.int .i64 (hlv n).1, .int .i64 (hlv n).2]) ∧ w = w' := by
  go_enter Tryd.func32, Tryd.ntmps32
  go_wp2_with fail
  go_loop [0, 4] (fun a s => ∃ (c : Int) (j : Nat), a = .int .i64 c ∧ s = .int .i64 j ∧ c ≠ 0 ∧ j + c.natAbs ≤ n.natAbs ∧ (hlv n).1 = (hlv c).1 ∧ (hlv n).2 = (hlv c).2 + j) (fun a _ => (intOf a).natAbs)
  case atStart => exact ⟨n, 0, rfl, rfl, h0, by simp, rfl, by simp⟩
  case round =>
    obtain ⟨c, j, rfl, rfl, hc, hj, e1, e2⟩ := hrel
    have c1 : -2000000000000 ≤ c := by omega
    have c2 : c ≤ 2000000000000 := by omega
    have j1 : (j : Int) ≤ 2000000000000 := by omega
    have HC := Lib.hid hc
    have HJ := Lib.hid hj
    have H1 := Lib.hid e1
    have H2 := Lib.hid e2
    have H0 := Lib.hid h0
    clear hc hj e1 e2 h0
    by_cases he : c % 2 = 0
    · have ht : (c.tmod 2 == 0) = true := by rw [even_tmod]; simp [oddB, he]
      have HE := Lib.hid he
      have hs := hlv_even HC.out he
      have HS := Lib.hid hs
      clear he hs
      go_wp2
      exact ⟨⟨c / 2, j + 1, by rw [half_w HE.out], by go_num, by have := HC.out; have := HE.out; omega, by have := HC.out; have := HE.out; have := HJ.out; omega, by rw [H1.out, HS.out], by rw [H2.out, HS.out]; dsimp only; omega⟩, by simp only [intOf]; rw [half_w HE.out]; have := HC.out; have := HE.out; omega⟩
    · have ht : (c.tmod 2 == 0) = false := by rw [even_tmod]; simp [oddB]; omega
      have hs := hlv_odd he
      have e3 : (hlv n).1 = c := by rw [H1.out, hs]
      have e4 : (hlv n).2 = j := by rw [H2.out, hs]; simp
      have H3 := Lib.hid e3
      have H4 := Lib.hid e4
      clear he hs e3 e4
      go_wp2
      go_ret2
      exact ⟨by rw [H3.out, H4.out]; rfl, rfl⟩

/-- Are there a map and two different numbers? -/
def askC (t p a b : Int) : Bool := goodB t p && (numB a && (numB b && !(a == b)))
/-- What CommonLength comes to. -/
def cml (t p a b : Int) : Int := if askC t p a b = true then ((hlv (a - b)).2 : Int) else 0
theorem ret_ic {x y : Int} {a b : Bool} (h : x = y) (h' : a = b) : Ending.returned (.tuple #[.int .i64 x, .bool a]) = .returned (.tuple #[.int .i64 y, .bool b]) := by rw [h, h']
theorem wrap_u64d (d : Int) : IntKind.u64.wrap d = ((d % 18446744073709551616).toNat : Int) := by rw [IntKind.wrap_u64]; omega

set_option maxHeartbeats 1000000 in
theorem iCommonLength (t p a b : Int) (w : World) (hT : TabD w) :
    Calls Tryd.prog 14 #[.agg #[.int .i64 t, .int .i64 p], .int .i64 a, .int .i64 b] w fun e w' => e = .returned (.tuple #[.int .i64 (cml t p a b), .bool (askC t p a b)]) ∧ Below w.heap.size w w' := by
  have HM := Lib.hid (fun w => isMap_any t p w)
  have HT := Lib.hid hT
  clear hT
  cases hask : askC t p a b
  · have HY : Hid (cml t p a b = 0) := Lib.hid (by rw [cml, hask]; rfl)
    cases hg : goodB t p <;> cases ha : numB a <;> cases hb : numB b <;> cases hab : (a == b)
    all_goals first
      | (exfalso; rw [askC, hg, ha, hb, hab] at hask; cases hask; done)
      | (rw [hg] at HM
         clear hask hg
         go_enter Tryd.func14, Tryd.ntmps14
         go_wp2_with fail
         refine (HM.out _).mono ?_
         rintro e w1 ⟨rfl, hb1⟩
         obtain ⟨c0, c1, hz, hbb⟩ := map_block hb1
         clear hb1
         go_wp2_with (go_at_call 26; refine (isNumber_any _ _).mono ?_; rintro e w' ⟨rfl, rfl⟩)
         go_ret2
         exact ⟨ret_ic HY.out.symm rfl, hbb⟩)
  · have hx := hask
    simp only [askC, Bool.and_eq_true, Bool.not_eq_true'] at hx
    obtain ⟨hg, ha, hb, hab⟩ := hx
    have hne : a - b ≠ 0 := by
      intro e
      have : a = b := by omega
      rw [this] at hab; simp at hab
    obtain ⟨a1, a2⟩ := numB_iff.1 ha
    obtain ⟨b1, b2⟩ := numB_iff.1 hb
    have HY : Hid (cml t p a b = ((hlv (a - b)).2 : Int)) := Lib.hid (by rw [cml, if_pos hask])
    have hc0 := ctz_hlv hne (by omega) (by omega)
    have hwr := wrap_u64d (a - b)
    have hb64 : ((a - b) % 18446744073709551616).toNat ≠ 0 ∧ ((a - b) % 18446744073709551616).toNat < 18446744073709551616 := by omega
    generalize ((a - b) % 18446744073709551616).toNat = x at hc0 hwr hb64
    have HC := Lib.hid hc0
    have HZ := Lib.hid (fun w h => tz_w x hb64.1 hb64.2 w h)
    clear hc0 hb64
    rw [hg] at HM
    clear hask hg hne
    go_enter Tryd.func14, Tryd.ntmps14
    go_wp2_with fail
    refine (HM.out _).mono ?_
    rintro e w1 ⟨rfl, hb1⟩
    obtain ⟨c0, c1, hz, hbb⟩ := map_block hb1
    have HTB := Lib.hid (tabD_below HT.out hbb (Nat.le_refl _))
    clear hb1
    go_wp2_with (go_at_call 26; refine (isNumber_any _ _).mono ?_; rintro e w' ⟨rfl, rfl⟩)
    refine (HZ.out _ HTB.out).mono ?_
    rintro e w' ⟨rfl, rfl⟩
    rw [HC.out]
    go_wp2_with fail
    go_ret2
    exact ⟨ret_ic HY.out.symm rfl, hbb⟩

set_option maxHeartbeats 1000000 in
theorem sCommonLength (t p a b : Int) (w : World) :
    Calls Tryd.prog 13 #[.agg #[.int .i64 t, .int .i64 p], .int .i64 a, .int .i64 b] w fun e w' => e = .returned (.tuple #[.int .i64 (cml t p a b), .bool (askC t p a b)]) ∧ Below w.heap.size w w' := by
  have HM := Lib.hid (fun w => mpGood_any t p w)
  cases hask : askC t p a b
  · have HY : Hid (cml t p a b = 0) := Lib.hid (by rw [cml, hask]; rfl)
    cases hg : goodB t p <;> cases ha : numB a <;> cases hb : numB b <;> cases hab : (a == b)
    all_goals first
      | (exfalso; rw [askC, hg, ha, hb, hab] at hask; cases hask; done)
      | (rw [hg] at HM
         clear hask hg
         go_enter Tryd.func13, Tryd.ntmps13
         go_wp2_with fail
         refine (HM.out _).mono ?_
         rintro e w1 ⟨rfl, hb1⟩
         obtain ⟨c0, c1, hz, hbb⟩ := map_block hb1
         clear hb1
         go_wp2_with (go_at_call 23; refine (mpIs_any _ _).mono ?_; rintro e w' ⟨rfl, rfl⟩)
         go_ret2
         exact ⟨ret_ic HY.out.symm rfl, hbb⟩)
  · have hx := hask
    simp only [askC, Bool.and_eq_true, Bool.not_eq_true'] at hx
    obtain ⟨hg, ha, hb, hab⟩ := hx
    have hne : a - b ≠ 0 := by
      intro e
      have : a = b := by omega
      rw [this] at hab; simp at hab
    obtain ⟨a1, a2⟩ := numB_iff.1 ha
    obtain ⟨b1, b2⟩ := numB_iff.1 hb
    have HY : Hid (cml t p a b = ((hlv (a - b)).2 : Int)) := Lib.hid (by rw [cml, if_pos hask])
    have HO := Lib.hid (fun w => mpOdd_big (a - b) w hne (by omega) (by omega))
    rw [hg] at HM
    clear hask hg hne
    go_enter Tryd.func13, Tryd.ntmps13
    go_wp2_with fail
    refine (HM.out _).mono ?_
    rintro e w1 ⟨rfl, hb1⟩
    obtain ⟨c0, c1, hz, hbb⟩ := map_block hb1
    clear hb1
    go_wp2_with (go_at_call 23; refine (mpIs_any _ _).mono ?_; rintro e w' ⟨rfl, rfl⟩)
    refine (HO.out _).mono ?_
    rintro e w' ⟨rfl, rfl⟩
    go_wp2_with fail
    go_ret2
    exact ⟨ret_ic HY.out.symm rfl, hbb⟩
end Go.Proofs.YtipefnhmihpdaaaDoor
