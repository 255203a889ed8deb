/-
  WHICH WORDS ARE PRIMITIVE, of both.
-/
import Derived.Test.YtbepnhgekbcbjaaDoorTurnW
import Derived.HandedShaped
namespace Go.Proofs.YtbepnhgekbcbjaaDoor
open Go.RowKit
set_option linter.unusedVariables false

/-- The library's variable 'MaxLen' holds some number. -/
def TabM (W : World) : Prop := ∃ m, W.cell? ⟨1, 0, none⟩ = some (.int .i64 m)
theorem globM : 1 < Tryd.prog.globals.size := by decide +kernel
theorem tabM_below {w w' : World} (h : TabM w) {B : Nat} (hb : Below B w w') (hB : 1 < B) : TabM w' := by
  obtain ⟨m, hm⟩ := h
  exact ⟨m, (hb.cell (p := ⟨1, 0, none⟩) hB).trans hm⟩
theorem tabM_lt {w : World} (h : TabM w) : 1 < w.heap.size := by
  obtain ⟨m, hm⟩ := h
  unfold World.cell? at hm
  cases hh : w.heap[1]? with
  | none => simp [hh] at hm
  | some o => exact (Array.getElem?_eq_some_iff.1 hh).1
theorem tabM_of_shaped {w : World} (h : w.ShapedOpen Tryd.prog) : TabM w := Tryd.laysM143.s1_3 w h

set_option maxHeartbeats 1000000 in
theorem isPrimitive_any (l : List UInt8) (w : World) (h1 : 1 ≤ l.length) (hl : l.length ≤ 10) (hm : TabM w) :
    Calls Tryd.prog 31 #[.string (bts l)] w fun e w' => e = .returned (.bool (primB l)) ∧ w = w' := by
  obtain ⟨m, hm⟩ := hm
  have HX := Lib.hid (fun w hm => Tryd.strings_Index (bts (l.drop 1 ++ l)) (bts l) m w (by rw [bts_size]; simp; omega) hm)
  simp only [bts_list] at HX
  have HP := Lib.hid (index_prim h1)
  have HM := Lib.hid hm
  have hs := bts_size l
  have hz : ((bts l).size : Int) ≤ 10 := by omega
  have hz0 : (1 : Int) ≤ (bts l).size := by omega
  have hz2 : 1 ≤ (bts l).size := by omega
  have hd := bts_drop l 1
  have hc := fun w => bts_cat (l.drop 1) l (by simp; omega) w
  have hll : (l.length : Int) = (bts l).size := by omega
  rw [hll] at HP
  generalize Lib.index (l.drop 1 ++ l) l = ix at HX HP
  generalize l.drop 1 = a at hd hc HX
  clear hm h1 hl hs hll
  go_enter Tryd.func31, Tryd.ntmps31
  go_wp2_with (go_at_call 37; refine (HX.out _ HM.out).mono ?_; rintro e w' ⟨rfl, rfl⟩)
  go_ret
  exact ⟨by rw [← HP.out]; rfl, rfl⟩

set_option maxRecDepth 100000 in
set_option maxHeartbeats 2000000 in
theorem cyPrimitive_any (l : List UInt8) (w : World) (h1 : 1 ≤ l.length) (hl : l.length ≤ 10) :
    Calls Tryd.prog 25 #[.string (bts l)] w fun e w' => e = .returned (.bool (primB l)) ∧ Below w.heap.size w w' := by
  have HT := Lib.hid (fun (k : Nat) (w : World) (hk : k ≤ l.length) => cyTurned_any l k w hl hk)
  have hs := bts_size l
  have HLEN := Lib.hid hs
  have hz : ((bts l).size : Int) ≤ 10 := by omega
  have hz0 : (1 : Int) ≤ (bts l).size := by omega
  clear hs
  go_enter Tryd.func25, Tryd.ntmps25
  go_wp2
  go_loopw [3] (fun x wr => ∃ k : Nat, 1 ≤ k ∧ k ≤ l.length ∧ x = .int .i64 k ∧ (∀ j, 1 ≤ j → j < k → rotL l j ≠ l) ∧ Below w.heap.size w wr) (fun x _ => l.length - (intOf x).toNat)
  case atStart => exact ⟨1, Nat.le_refl _, h1, rfl, fun j h2 h3 => by omega, Below.refl _ _⟩
  case round =>
    obtain ⟨k, hk1, hk2, rfl, hno, hbel⟩ := hrel
    have HNO := Lib.hid hno
    have HB := Lib.hid hbel
    clear hno hbel
    by_cases hlt : k < l.length
    · have hlt2 : (k : Int) < (bts l).size := by have := HLEN.out; omega
      have HTK := Lib.hid (fun w => HT.out k w hk2)
      by_cases he : rotL l k = l
      · have HP : Hid (primB l = false) := Lib.hid (primB_no hk1 hlt he)
        have heq : ((bts (rotL l k)).toList == (bts l).toList) = true := by rw [he]; simp
        clear he
        go_wp2_with fail
        refine (HTK.out _).mono ?_
        rintro e w2 ⟨rfl, hb2⟩
        have HB2 := Lib.hid (HB.out.trans (hb2.mono HB.out.size))
        clear hb2
        go_wp2_with fail
        go_ret
        exact ⟨by rw [HP.out]; rfl, HB2.out⟩
      · have HE := Lib.hid he
        have heq : ((bts (rotL l k)).toList == (bts l).toList) = false := by
          rw [Lib.toList_data, Lib.toList_data, bts_list, bts_list]
          simpa using he
        clear he
        go_wp2_with fail
        refine (HTK.out _).mono ?_
        rintro e w2 ⟨rfl, hb2⟩
        have HB2 := Lib.hid (HB.out.trans (hb2.mono HB.out.size))
        clear hb2
        go_wp2_with fail
        exact ⟨⟨k + 1, by omega, hlt, by go_num, fun j h2 h3 => by
          by_cases e : j = k
          · subst e; exact HE.out
          · exact HNO.out j h2 (by omega), HB2.out⟩, by simp [intOf]; omega⟩
    · have hlt2 : ¬ ((k : Int) < (bts l).size) := by have := HLEN.out; omega
      have HP : Hid (primB l = true) := Lib.hid (primB_yes fun j h2 h3 => HNO.out j h2 (by omega))
      go_wp2_with fail
      go_ret
      exact ⟨by rw [HP.out]; rfl, HB.out⟩

/-- What IsPrimitive comes to. -/
def ipB (s : ByteArray) : Bool := turnB s && primB s.data.toList
theorem ret_ip {x y a b : Bool} (h : x = y) (h' : a = b) : Ending.returned (.tuple #[.bool x, .bool a]) = .returned (.tuple #[.bool y, .bool b]) := by rw [h, h']

end Go.Proofs.YtbepnhgekbcbjaaDoor
