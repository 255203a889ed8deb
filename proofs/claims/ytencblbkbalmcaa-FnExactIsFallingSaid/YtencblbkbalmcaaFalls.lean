/-
  'OddsOfWord', 'IsFalling' of both.
-/
import Derived.Test.YtencblbkbalmcaaOddsC
import Derived.Test.YtencblbkbalmcaaAsked
import Derived.Test.YtencblbkbalmcaaFw
import Derived.Laws.Externs
namespace Go.Proofs.Ytencblbkbalmcaa
open Go.RowKit
set_option linter.unusedVariables false

theorem ret_nb {x y : Int} {a b : Bool} (h : x = y) (h' : a = b) : Ending.returned (.tuple #[.int .i64 x, .bool a]) = .returned (.tuple #[.int .i64 y, .bool b]) := by rw [h, h']
theorem ret_fb {x y a b : Bool} (h : x = y) (h' : a = b) : Ending.returned (.tuple #[.bool x, .bool a]) = .returned (.tuple #[.bool y, .bool b]) := by rw [h, h']

set_option maxRecDepth 100000 in
theorem count_w (s : ByteArray) (w : World) :
    Calls Try.prog 32 #[.string s, .string ⟨#[111]⟩] w fun e w' => e = .returned (.int .i64 (cnt s.data.toList : Nat)) ∧ w' = w := by
  go_enter Try.func32, Try.ntmps32
  go_wp2
  rw [run_callFunc_extern Try.func37 (by kernel_rfl) (by kernel_rfl) (by kernel_rfl) (e := Extern.BytealgCount.count) (by kernel_rfl), Lib.run_countString]
  simp only [Result.andThen]
  rw [Oper.upon_value]
  go_wp2
  go_ret
  exact ⟨rfl, rfl⟩

/-- What OddsOfWord comes to. -/
def odw (s : ByteArray) : Nat := if wordB s = true then cnt s.data.toList else 0
theorem odw_le {s : ByteArray} (h : wordB s = true) : odw s ≤ 15 := by
  rw [odw, if_pos h]
  have := cnt_le s.data.toList
  have := (wordB_iff.1 h).1
  have : s.data.toList.length = s.size := by simp
  omega

theorem iOddsOfWord (s : ByteArray) (w : World) :
    Calls Try.prog 19 #[.string s] w fun e w' => e = .returned (.tuple #[.int .i64 (odw s : Nat), .bool (wordB s)]) ∧ Below w.heap.size w w' := by
  have HI := Lib.hid (fun w => isWord_any s w)
  cases hw : wordB s
  · have HY : Hid (odw s = 0) := Lib.hid (by rw [odw, if_neg (by simp [hw])])
    rw [hw] at HI
    clear hw
    go_enter Try.func19, Try.ntmps19
    go_wp2_with fail
    refine (HI.out _).mono ?_
    rintro e w1 ⟨rfl, hb1⟩
    go_wp2_with fail
    go_ret2
    exact ⟨ret_nb (by rw [HY.out]; rfl) rfl, hb1⟩
  · have HY : Hid (odw s = cnt s.data.toList) := Lib.hid (by rw [odw, if_pos hw])
    have HC := Lib.hid (fun w => count_w s w)
    rw [hw] at HI
    clear hw
    generalize cnt s.data.toList = c at HY HC
    go_enter Try.func19, Try.ntmps19
    go_wp2_with fail
    refine (HI.out _).mono ?_
    rintro e w1 ⟨rfl, hb1⟩
    go_wp2_with fail
    refine (HC.out _).mono ?_
    rintro e w2 ⟨rfl, rfl⟩
    go_wp2_with fail
    go_ret2
    exact ⟨ret_nb (by rw [HY.out]) rfl, hb1⟩

/-- What IsFalling comes to. -/
def isf (t p : Int) (s : ByteArray) : Bool := askW t p s && fl t (cnt s.data.toList) s.size

set_option maxHeartbeats 1000000 in
theorem sIsFalling (t p : Int) (s : ByteArray) (w : World) :
    Calls Try.prog 7 #[.agg #[.int .i64 t, .int .i64 p], .string s] w fun e w' => e = .returned (.tuple #[.bool (isf t p s), .bool (askW t p s)]) ∧ Below w.heap.size w w' := by
  have HA := Lib.hid (fun w => woAsked_any t p s w)
  cases hc : askW t p s
  · have HY : Hid (isf t p s = false) := Lib.hid (by rw [isf, hc]; rfl)
    rw [hc] at HA
    clear hc
    go_enter Try.func7, Try.ntmps7
    go_wp2_with fail
    refine (HA.out _).mono ?_
    rintro e w1 ⟨rfl, hb1⟩
    obtain ⟨c0, c1, hz, hb⟩ := map_block hb1
    clear hb1
    go_wp2_with fail
    go_ret2
    exact ⟨ret_fb (by rw [HY.out]) rfl, hb⟩
  · obtain ⟨hg, hw⟩ := askW_iff.1 hc
    obtain ⟨hz15, hl⟩ := wordB_iff.1 hw
    have HY : Hid (isf t p s = fl t (cnt s.data.toList) s.size) := Lib.hid (by rw [isf, hc]; rfl)
    have hcn : cnt s.data.toList ≤ 15 := by
      have := cnt_le s.data.toList
      have : s.data.toList.length = s.size := by simp
      omega
    have HC := Lib.hid (fun w => woOdds_any s w hz15 hl)
    have HF := Lib.hid (fun w => woFalls_big t p (cnt s.data.toList) s.size w hg (by omega) (by omega))
    rw [hc] at HA
    clear hc hg hw hl hcn
    generalize cnt s.data.toList = c at HY HC HF
    generalize fl t c s.size = d at HY HF
    go_enter Try.func7, Try.ntmps7
    go_wp2_with fail
    refine (HA.out _).mono ?_
    rintro e w1 ⟨rfl, hb1⟩
    obtain ⟨c0, c1, hz, hb⟩ := map_block hb1
    have HB := Lib.hid hb
    have HZ := Lib.hid hz
    clear hb1 hb
    go_wp2_with fail
    go_region_with (first
      | (go_at_call 18; refine (HC.out _).mono ?_; rintro e w2 ⟨rfl, hb2⟩; have d0 := kept_cell hb2 HZ.out c0; have d1 := kept_cell hb2 HZ.out c1)
      | (go_at_call 17; refine (HF.out _).mono ?_; rintro e w3 ⟨rfl, hb3⟩))
    all_goals
      go_wp2_with fail
      go_ret2
      exact ⟨ret_fb (by rw [HY.out]) rfl, (HB.out.drew.trans (hb2.mono HB.out.size)).trans (hb3.mono (HB.out.drew.trans (hb2.mono HB.out.size)).size)⟩

set_option maxHeartbeats 1000000 in
theorem iIsFalling (t p : Int) (s : ByteArray) (w : World) :
    Calls Try.prog 9 #[.agg #[.int .i64 t, .int .i64 p], .string s] w fun e w' => e = .returned (.tuple #[.bool (isf t p s), .bool (askW t p s)]) ∧ Below w.heap.size w w' := by
  have HO := Lib.hid (fun w => iOddsOfWord s w)
  have HM := Lib.hid (fun w => isMap_any t p w)
  cases hw : wordB s
  · have HA : Hid (askW t p s = false) := Lib.hid (by rw [askW, hw, Bool.and_false])
    have HY : Hid (isf t p s = false) := Lib.hid (by rw [isf, HA.out]; rfl)
    rw [hw] at HO
    clear hw
    generalize odw s = c at HO
    go_enter Try.func9, Try.ntmps9
    go_wp2_with fail
    refine (HO.out _).mono ?_
    rintro e w1 ⟨rfl, hb1⟩
    obtain ⟨c0, c1, hz, hb⟩ := map_block hb1
    clear hb1
    go_wp2_with fail
    go_ret2
    exact ⟨ret_fb (by rw [HY.out]) (by rw [HA.out]), hb⟩
  · have ho := odw_le hw
    have HOC : Hid (odw s = cnt s.data.toList) := Lib.hid (by rw [odw, if_pos hw])
    rw [hw] at HO
    cases hg : goodB t p
    · have HA : Hid (askW t p s = false) := Lib.hid (by rw [askW, hg]; rfl)
      have HY : Hid (isf t p s = false) := Lib.hid (by rw [isf, HA.out]; rfl)
      rw [hg] at HM
      clear hw hg ho HOC
      generalize odw s = c at HO
      go_enter Try.func9, Try.ntmps9
      go_wp2_with fail
      refine (HO.out _).mono ?_
      rintro e w1 ⟨rfl, hb1⟩
      obtain ⟨c0, c1, hz, hb⟩ := map_block hb1
      clear hb1
      go_wp2_with fail
      refine (HM.out _).mono ?_
      rintro e w2 ⟨rfl, hb2⟩
      have HB := Lib.hid (hb.trans (hb2.mono (Nat.le_of_lt hz)))
      clear hb2 hb c0 c1
      go_wp2_with fail
      go_ret2
      exact ⟨ret_fb (by rw [HY.out]) (by rw [HA.out]), HB.out⟩
    · have HA : Hid (askW t p s = true) := Lib.hid (askW_iff.2 ⟨hg, hw⟩)
      have HY : Hid (isf t p s = fl t (cnt s.data.toList) s.size) := Lib.hid (by rw [isf, HA.out]; rfl)
      rw [← HOC.out] at HY
      have hz15 := (wordB_iff.1 hw).1
      have HP := Lib.hid (fun w => falls_any t p (odw s) s.size w hg (by omega) (by omega))
      rw [hg] at HM
      clear hw hg HOC
      generalize odw s = c at HO HP HY
      generalize fl t c s.size = d at HY HP
      go_enter Try.func9, Try.ntmps9
      go_wp2_with fail
      refine (HO.out _).mono ?_
      rintro e w1 ⟨rfl, hb1⟩
      obtain ⟨c0, c1, hz, hb⟩ := map_block hb1
      clear hb1
      go_wp2_with fail
      refine (HM.out _).mono ?_
      rintro e w2 ⟨rfl, hb2⟩
      have d0 := kept_cell hb2 hz c0
      have d1 := kept_cell hb2 hz c1
      have HB := Lib.hid (hb.trans (hb2.mono (Nat.le_of_lt hz)))
      clear hb2 hb c0 c1
      go_wp2_with fail
      refine (HP.out _).mono ?_
      rintro e w3 ⟨rfl, hb3⟩
      have HB3 := Lib.hid (HB.out.trans (hb3.mono HB.out.size))
      clear hb3
      go_wp2_with fail
      go_ret2
      exact ⟨ret_fb (by rw [HY.out]) (by rw [HA.out]), HB3.out⟩
end Go.Proofs.Ytencblbkbalmcaa
