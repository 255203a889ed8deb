/-
  THE NUMBER OF A WORD: 'cyNumber', 'NumberOfWord', 'cyIs', 'IsCycleWord' of both.
-/
import Derived.Test.YtbepnhgekbcbjaaDoorGcd
import Derived.Test.YtbepnhgekbcbjaaDoorNumB
namespace Go.Proofs.YtbepnhgekbcbjaaDoor
open Go.RowKit
set_option linter.unusedVariables false

/-- The greater one. -/
def mostI (a b : Int) : Int := if b < a then a else b
theorem l1Most_any (a b : Int) (w : World) :
    Calls Tryd.prog 53 #[.int .i64 a, .int .i64 b] w fun e w' => e = .returned (.int .i64 (mostI a b)) ∧ w = w' := by
  by_cases h : b < a
  · go_enter Tryd.func53, Tryd.ntmps53
    go_wp2
    go_ret
    exact ⟨ret_int (by rw [mostI, if_pos h]), rfl⟩
  · go_enter Tryd.func53, Tryd.ntmps53
    go_wp2
    go_ret
    exact ⟨ret_int (by rw [mostI, if_neg (by omega)]), rfl⟩
theorem l1Abs_any (a : Int) (w : World) (a0 : -7000000000000 ≤ a) (a1 : a ≤ 7000000000000) :
    Calls Tryd.prog 46 #[.int .i64 a] w fun e w' => e = .returned (.int .i64 (a.natAbs : Nat)) ∧ w = w' := by
  go_enter Tryd.func46, Tryd.ntmps46
  go_wp2_with (go_at_call 53; refine (l1Most_any _ _ _).mono ?_; rintro e w' ⟨rfl, rfl⟩)
  go_ret
  refine ⟨ret_int ?_, rfl⟩
  unfold mostI
  split <;> omega

theorem ret_3f {x : Int × Int} {f : Bool} {a b : Int} {g : Bool} (h : x = (a, b)) (h' : f = g) : Ending.returned (.tuple #[.int .i64 a, .int .i64 b, .bool g]) = .returned (.tuple #[.int .i64 x.1, .int .i64 x.2, .bool f]) := by rw [h, h']
theorem gcd_mod {u v : Int} (hu : 0 ≤ u) : Int.gcd v (u % v) = Int.gcd u v := by
  rw [← Int.tmod_eq_emod_of_nonneg hu, gcd_tmod]

set_option maxRecDepth 100000 in
set_option maxHeartbeats 4000000 in
theorem cyNumber_any (t p : Int) (s : ByteArray) (w : World) (hg : goodB t p = true) (hw : turnB s = true) :
    Calls Tryd.prog 38 #[.agg #[.int .i64 t, .int .i64 p], .string s] w fun e w' =>
      e = .returned (.tuple #[.int .i64 (numW t p s.data.toList).1, .int .i64 (numW t p s.data.toList).2, .bool true]) ∧ Below w.heap.size w w' := by
  have HD := Lib.hid (fun w => cyDoes_any t p s w hg hw)
  obtain ⟨hz0, hz1, hl⟩ := turnB_iff.1 hw
  have hlen : s.data.toList.length = s.size := by simp
  obtain ⟨a0, a1, d0, d1, b0, b1⟩ := doesL_b hg (l := s.data.toList) (by omega)
  have hne := doesL_ne hg (l := s.data.toList) (by omega)
  have hrp := rawN_pos hg (l := s.data.toList) (by omega)
  have hrb := rawN_b hg (l := s.data.toList) (by omega)
  obtain ⟨a, b, d, hx⟩ : ∃ a b d, doesL t p s.data.toList = (a, b, d) := ⟨_, _, _, rfl⟩
  have hraw : rawN t p s.data.toList = if d - a < 0 then (-b, -(d - a)) else (b, d - a) := by unfold rawN; rw [hx]
  rw [hx] at HD a0 a1 d0 d1 b0 b1 hne
  dsimp only at HD a0 a1 d0 d1 b0 b1 hne
  have hpd : (a == d) = false := by simp; omega
  obtain ⟨num, den, hnd⟩ : ∃ num den, rawN t p s.data.toList = (num, den) := ⟨_, _, rfl⟩
  have HN : Hid (numW t p s.data.toList = (num.tdiv (Int.gcd num den), den.tdiv (Int.gcd num den))) := Lib.hid (by unfold numW; rw [hnd])
  rw [hnd] at hrp hrb hraw
  dsimp only at hrp hrb
  have hgp := gcd_pos (a := num) (b := den) (by omega)
  have hgl := gcd_le (a := num) (b := den) (B := 7000000000000) (by omega) (by omega)
  have hga := gcd_abs num den
  obtain ⟨q1, q2⟩ := tdiv_small (a := num) (g := ((Int.gcd num den : Nat) : Int)) (B := 7000000000000) (by omega) (by omega)
  have hed : den.tdiv ((Int.gcd num den : Nat) : Int) = den / ((Int.gcd num den : Nat) : Int) := Int.tdiv_eq_ediv_of_nonneg (by omega)
  rw [hed] at HN
  obtain ⟨G, hG⟩ : ∃ G : Nat, Int.gcd num den = G := ⟨_, rfl⟩
  rw [hG] at HN hgp hgl hga q1 q2
  have HGA := Lib.hid hga
  have HAB := Lib.hid (fun w => l1Abs_any num w (by omega) (by omega))
  obtain ⟨r1, r2, r3⟩ := hrb
  clear hed hG hga hnd hx hg hw hl hlen hne
  by_cases hdn : d - a < 0
  · rw [if_pos hdn] at hraw
    obtain ⟨hn1, hn2⟩ : num = -b ∧ den = -(d - a) := by simpa using hraw
    have HN1 := Lib.hid hn1
    have HN2 := Lib.hid hn2
    clear hraw hn1 hn2
    go_enter Tryd.func38, Tryd.ntmps38
    go_wp2_with fail
    refine (HD.out _).mono ?_
    rintro e w1 ⟨rfl, hb1⟩
    have HB1 := Lib.hid (((Below.refl _ w).alloc (Nat.le_refl _) _).trans (hb1.mono (by simp)))
    clear hb1
    go_wp2_with fail
    rw [← HN2.out, ← HN1.out]
    refine (HAB.out _).mono ?_
    rintro e w2 ⟨rfl, rfl⟩
    have hna : ((num.natAbs : Nat) : Int) ≤ 7000000000000 := by omega
    go_wp2_with fail
    go_loopw [12, 13] (fun x y wr => ∃ u v : Int, x = .int .i64 u ∧ y = .int .i64 v ∧ Int.gcd u v = G ∧ 0 ≤ u ∧ u ≤ 7000000000000 ∧ 0 ≤ v ∧ v ≤ 7000000000000 ∧ Below w.heap.size w wr) (fun _ y _ => (intOf y).natAbs)
    case atStart => exact ⟨_, _, rfl, rfl, HGA.out, by omega, hna, by omega, by omega, HB1.out⟩
    case round =>
      obtain ⟨u, v, rfl, rfl, hg, u0, u1, v0, v1, hbel⟩ := hrel
      have HB := Lib.hid hbel
      have HGC := Lib.hid hg
      clear hg hbel hna
      by_cases hv : v = 0
      · subst hv
        have hgz : u = (G : Int) := by
          have := gcd_zero u
          rw [if_pos u0, HGC.out] at this
          exact this.symm
        subst hgz
        have hg2 : ((G : Int) == 0) = false := by simp; omega
        clear HGC
        go_wp2
        go_region
        go_wp2
        go_ret3
        exact ⟨ret_3f HN.out rfl, HB.out.drew⟩
      · have hv1 : 0 < v := by omega
        have m0 := Int.emod_nonneg u (show v ≠ 0 by omega)
        have m1 := Int.emod_lt_of_pos u hv1
        have HT := Lib.hid ((gcd_mod (v := v) u0).trans HGC.out)
        have HM0 := Lib.hid (And.intro m0 m1)
        clear m0 m1
        go_wp2
        go_region
        go_wp2
        exact ⟨⟨v, u % v, rfl, rfl, HT.out, v0, v1, HM0.out.1, by have := HM0.out.2; omega, HB.out.drew⟩, by have := HM0.out; simp only [intOf]; omega⟩
  · rw [if_neg hdn] at hraw
    obtain ⟨hn1, hn2⟩ : num = b ∧ den = d - a := by simpa using hraw
    subst hn1
    have HN2 := Lib.hid hn2
    clear hraw hn2
    go_enter Tryd.func38, Tryd.ntmps38
    go_wp2_with fail
    refine (HD.out _).mono ?_
    rintro e w1 ⟨rfl, hb1⟩
    have HB1 := Lib.hid (((Below.refl _ w).alloc (Nat.le_refl _) _).trans (hb1.mono (by simp)))
    clear hb1
    go_wp2_with fail
    rw [← HN2.out]
    refine (HAB.out _).mono ?_
    rintro e w2 ⟨rfl, rfl⟩
    have hna : ((num.natAbs : Nat) : Int) ≤ 7000000000000 := by omega
    go_wp2_with fail
    go_loopw [12, 13] (fun x y wr => ∃ u v : Int, x = .int .i64 u ∧ y = .int .i64 v ∧ Int.gcd u v = G ∧ 0 ≤ u ∧ u ≤ 7000000000000 ∧ 0 ≤ v ∧ v ≤ 7000000000000 ∧ Below w.heap.size w wr) (fun _ y _ => (intOf y).natAbs)
    case atStart => exact ⟨_, _, rfl, rfl, HGA.out, by omega, hna, by omega, by omega, HB1.out⟩
    case round =>
      obtain ⟨u, v, rfl, rfl, hg, u0, u1, v0, v1, hbel⟩ := hrel
      have HB := Lib.hid hbel
      have HGC := Lib.hid hg
      clear hg hbel hna
      by_cases hv : v = 0
      · subst hv
        have hgz : u = (G : Int) := by
          have := gcd_zero u
          rw [if_pos u0, HGC.out] at this
          exact this.symm
        subst hgz
        have hg2 : ((G : Int) == 0) = false := by simp; omega
        clear HGC
        go_wp2
        go_region
        go_wp2
        go_ret3
        exact ⟨ret_3f HN.out rfl, HB.out.drew⟩
      · have hv1 : 0 < v := by omega
        have m0 := Int.emod_nonneg u (show v ≠ 0 by omega)
        have m1 := Int.emod_lt_of_pos u hv1
        have HT := Lib.hid ((gcd_mod (v := v) u0).trans HGC.out)
        have HM0 := Lib.hid (And.intro m0 m1)
        clear m0 m1
        go_wp2
        go_region
        go_wp2
        exact ⟨⟨v, u % v, rfl, rfl, HT.out, v0, v1, HM0.out.1, by have := HM0.out.2; omega, HB.out.drew⟩, by have := HM0.out; simp only [intOf]; omega⟩

/-- What NumberOfWord comes to. -/
def now (t p : Int) (s : ByteArray) : Int × Int := if goodB t p = true ∧ turnB s = true then numW t p s.data.toList else (0, 0)
/-- Are there a map and a word? -/
def askT (t p : Int) (s : ByteArray) : Bool := goodB t p && turnB s

theorem numW_lowT (t p : Int) (l : List UInt8) : numW t p l = lowT (doesL t p l).2.1 ((doesL t p l).2.2 - (doesL t p l).1) := by
  unfold numW lowT rawN
  split
  · dsimp only; rw [gcd_neg2]
  · rfl

set_option maxHeartbeats 1000000 in
theorem iNumberOfWord (t p : Int) (s : ByteArray) (w : World) :
    Calls Tryd.prog 33 #[.agg #[.int .i64 t, .int .i64 p], .string s] w fun e w' =>
      e = .returned (.tuple #[.int .i64 (now t p s).1, .int .i64 (now t p s).2, .bool (askT t p s)]) ∧ Below w.heap.size w w' := by
  have HD := Lib.hid (fun w => iWordDoes t p s w)
  by_cases ha : goodB t p = true ∧ turnB s = true
  · have HY : Hid (now t p s = numW t p s.data.toList) := Lib.hid (by rw [now, if_pos ha])
    have HA : Hid (askT t p s = true) := Lib.hid (by simp [askT, ha])
    have hwd : wdo t p s = (doesL t p s.data.toList, true) := by rw [wdo, if_pos ha]
    rw [hwd] at HD
    rw [numW_lowT] at HY
    obtain ⟨hg, hw⟩ := ha
    obtain ⟨hz0, hz1, hl⟩ := turnB_iff.1 hw
    have hlen : s.data.toList.length = s.size := by simp
    obtain ⟨a0, a1, d0, d1, b0, b1⟩ := doesL_b hg (l := s.data.toList) (by omega)
    have hne := doesL_ne hg (l := s.data.toList) (by omega)
    obtain ⟨a, b, d, hx⟩ : ∃ a b d, doesL t p s.data.toList = (a, b, d) := ⟨_, _, _, rfl⟩
    rw [hx] at HD HY a0 a1 d0 d1 b0 b1 hne
    dsimp only at HD HY a0 a1 d0 d1 b0 b1 hne
    have HLT := Lib.hid (fun w => lowestTerms_any b (d - a) w (by omega) (by omega) (by omega) (by omega) (by omega))
    clear hwd hx hg hw hl hlen
    go_enter Tryd.func33, Tryd.ntmps33
    go_wp2_with fail
    refine (HD.out _).mono ?_
    rintro e w1 ⟨rfl, hb1⟩
    have HB1 := Lib.hid (((Below.refl _ w).alloc (Nat.le_refl _) _).trans (hb1.mono (by simp)))
    clear hb1
    go_wp2_with fail
    refine (HLT.out _).mono ?_
    rintro e w2 ⟨rfl, hb2⟩
    have HB2 := Lib.hid (HB1.out.trans (hb2.mono HB1.out.size))
    clear hb2
    go_wp2_with fail
    go_ret3
    exact ⟨ret_3f HY.out HA.out, HB2.out⟩
  · have HY : Hid (now t p s = (0, 0)) := Lib.hid (by rw [now, if_neg ha])
    have HA : Hid (askT t p s = false) := Lib.hid (by rw [askT]; simpa using ha)
    have hwd : wdo t p s = ((0, 0, 0), false) := by rw [wdo, if_neg ha]
    rw [hwd] at HD
    clear hwd ha
    go_enter Tryd.func33, Tryd.ntmps33
    go_wp2_with fail
    refine (HD.out _).mono ?_
    rintro e w1 ⟨rfl, hb1⟩
    have HB1 := Lib.hid (((Below.refl _ w).alloc (Nat.le_refl _) _).trans (hb1.mono (by simp)))
    clear hb1
    go_wp2_with fail
    go_ret3
    exact ⟨ret_3f HY.out HA.out, HB1.out⟩
end Go.Proofs.YtbepnhgekbcbjaaDoor
