/-
  'OddNext' of both.
-/
import Derived.Test.YtmocbkpfoddffaaDoorOdd
import Derived.Test.YtmocbkpfoddffaaDoorSpec2
namespace Go.Proofs.YtmocbkpfoddffaaDoor
open Go.RowKit Go.Shelf
set_option linter.unusedVariables false

theorem ret_three {x : Int × Int × Bool} {a b : Int} {c : Bool} (h : x = (a, b, c)) : Ending.returned (.tuple #[.int .i64 a, .int .i64 b, .bool c]) = .returned (.tuple #[.int .i64 x.1, .int .i64 x.2.1, .bool x.2.2]) := by rw [h]

/-- The odd part of what is behind a step from an odd number. -/
def odn (t p n : Int) : Int × Int × Bool := if (aft t p (nx t p) n 1).2 = true ∧ oddB n = true then odp (aft t p (nx t p) n 1).1 else (0, 0, false)

theorem sOddNext (t p n : Int) (w : World) :
    Calls Tryd.prog 10 #[.agg #[.int .i64 t, .int .i64 p], .int .i64 n] w fun e w' =>
      e = .returned (.tuple #[.int .i64 (odn t p n).1, .int .i64 (odn t p n).2.1, .bool (odn t p n).2.2]) ∧ Below w.heap.size w w' := by
  by_cases hg : goodB t p = true
  · by_cases hn : numB n = true
    · have ha := aft_one (f := nx t p) hg hn
      by_cases ho : oddB n = true
      · have ht : (n.tmod 2 == 0) = false := by rw [even_tmod, ho]; rfl
        have HG := Lib.hid hg
        have HN := Lib.hid hn
        by_cases hx : numB (nx t p n) = true
        · obtain ⟨n1, n2⟩ := numB_iff.1 hx
          by_cases h0 : nx t p n = 0
          · have hz0 : (nx t p n == 0) = true := by simpa using h0
            have hf : odn t p n = (0, 0, false) := by simp [odn, ha, ho, h0, odp]
            clear h0 ha n1 n2
            have HF := Lib.hid hf
            clear hf
            go_enter Tryd.func10, Tryd.ntmps10
            go_wp2_with (first | (go_at_call 35; refine (mpGood_any _ _ _).mono ?_; rintro e w1 ⟨rfl, hb1⟩; obtain ⟨c0, c1, hz, hb⟩ := map_block hb1; clear hb1) | (go_at_call 32; refine (mpIs_any _ _).mono ?_; rintro e w' ⟨rfl, rfl⟩) | (go_at_call 36; refine (mpNext_any _ _ _ _ HG.out HN.out).mono ?_; rintro e w2 ⟨rfl, hb2⟩))
            go_ret3
            exact ⟨ret_three HF.out, hb.trans (hb2.mono (Nat.le_of_lt hz))⟩
          · have hz0 : (nx t p n == 0) = false := by simpa using h0
            have H0 := Lib.hid h0
            have hf : odn t p n = ((hlv (nx t p n)).1, ((hlv (nx t p n)).2 : Int), true) := by
              unfold odn odp
              rw [ha]
              simp [hx, ho, h0]
            have HF := Lib.hid hf
            clear hf h0 ha
            go_enter Tryd.func10, Tryd.ntmps10
            go_wp2_with (first | (go_at_call 35; refine (mpGood_any _ _ _).mono ?_; rintro e w1 ⟨rfl, hb1⟩; obtain ⟨c0, c1, hz, hb⟩ := map_block hb1; clear hb1) | (go_at_call 32; refine (mpIs_any _ _).mono ?_; rintro e w' ⟨rfl, rfl⟩) | (go_at_call 36; refine (mpNext_any _ _ _ _ HG.out HN.out).mono ?_; rintro e w2 ⟨rfl, hb2⟩) | (go_at_call 33; refine (mpOdd_any _ _ H0.out n1 n2).mono ?_; rintro e w' ⟨rfl, rfl⟩))
            go_ret3
            exact ⟨ret_three HF.out, hb.trans (hb2.mono (Nat.le_of_lt hz))⟩
        · have hx' : numB (nx t p n) = false := by simpa using hx
          by_cases h0 : nx t p n = 0
          · exact absurd (by rw [h0]; rfl) hx
          · have hz0 : (nx t p n == 0) = false := by simpa using h0
            have hf : odn t p n = (0, 0, false) := by simp [odn, ha, hx']
            clear h0 ha hx
            have HF := Lib.hid hf
            clear hf
            go_enter Tryd.func10, Tryd.ntmps10
            go_wp2_with (first | (go_at_call 35; refine (mpGood_any _ _ _).mono ?_; rintro e w1 ⟨rfl, hb1⟩; obtain ⟨c0, c1, hz, hb⟩ := map_block hb1; clear hb1) | (go_at_call 32; refine (mpIs_any _ _).mono ?_; rintro e w' ⟨rfl, rfl⟩) | (go_at_call 36; refine (mpNext_any _ _ _ _ HG.out HN.out).mono ?_; rintro e w2 ⟨rfl, hb2⟩))
            go_ret3
            exact ⟨ret_three HF.out, hb.trans (hb2.mono (Nat.le_of_lt hz))⟩
      · have ht : (n.tmod 2 == 0) = true := by rw [even_tmod]; simpa using ho
        have hf : odn t p n = (0, 0, false) := by simp [odn, ho]
        clear ha ho
        have HF := Lib.hid hf
        clear hf
        go_enter Tryd.func10, Tryd.ntmps10
        go_wp2_with (first | (go_at_call 35; refine (mpGood_any _ _ _).mono ?_; rintro e w1 ⟨rfl, hb1⟩; obtain ⟨c0, c1, hz, hb⟩ := map_block hb1; clear hb1) | (go_at_call 32; refine (mpIs_any _ _).mono ?_; rintro e w' ⟨rfl, rfl⟩))
        go_ret3
        exact ⟨ret_three HF.out, hb⟩
    · have hn' : numB n = false := by simpa using hn
      have hf : odn t p n = (0, 0, false) := by rw [odn, aft_not (.inr hn')]; simp
      clear hn
      have HF := Lib.hid hf
      clear hf
      go_enter Tryd.func10, Tryd.ntmps10
      go_wp2_with (first | (go_at_call 35; refine (mpGood_any _ _ _).mono ?_; rintro e w1 ⟨rfl, hb1⟩; obtain ⟨c0, c1, hz, hb⟩ := map_block hb1; clear hb1) | (go_at_call 32; refine (mpIs_any _ _).mono ?_; rintro e w' ⟨rfl, rfl⟩))
      go_ret3
      exact ⟨ret_three HF.out, hb⟩
  · have hg' : goodB t p = false := by simpa using hg
    have hf : odn t p n = (0, 0, false) := by rw [odn, aft_not (.inl hg')]; simp
    clear hg
    have HF := Lib.hid hf
    clear hf
    go_enter Tryd.func10, Tryd.ntmps10
    go_wp2_with (first | (go_at_call 35; refine (mpGood_any _ _ _).mono ?_; rintro e w1 ⟨rfl, hb1⟩; obtain ⟨c0, c1, hz, hb⟩ := map_block hb1; clear hb1) | (go_at_call 32; refine (mpIs_any _ _).mono ?_; rintro e w' ⟨rfl, rfl⟩))
    go_ret3
    exact ⟨ret_three HF.out, hb⟩

theorem iOddNext (t p n : Int) (w : World) :
    Calls Tryd.prog 9 #[.agg #[.int .i64 t, .int .i64 p], .int .i64 n] w fun e w' =>
      e = .returned (.tuple #[.int .i64 (odn t p n).1, .int .i64 (odn t p n).2.1, .bool (odn t p n).2.2]) ∧ Below w.heap.size w w' := by
  by_cases h : (aft t p (nx t p) n 1).2 = true
  · by_cases ho : oddB n = true
    · have hf : odn t p n = odp (aft t p (nx t p) n 1).1 := by rw [odn, if_pos ⟨h, ho⟩]
      rw [hf]
      clear hf
      go_enter Tryd.func9, Tryd.ntmps9
      go_wp2_with fail
      refine (iNextNumber t p n _).mono ?_
      rintro e w1 ⟨rfl, hb1⟩
      obtain ⟨c0, c1, hz, hb⟩ := map_block hb1
      clear hb1
      go_wp2_with (first | (go_at_call 31; refine (isOdd_any _ _).mono ?_; rintro e w' ⟨rfl, rfl⟩) | (go_at_call 6; refine (iOddPart _ _).mono ?_; rintro e w' ⟨rfl, rfl⟩))
      go_ret3
      exact ⟨rfl, hb⟩
    · have ho' : oddB n = false := by simpa using ho
      have hf : odn t p n = (0, 0, false) := by rw [odn, if_neg (fun x => ho x.2)]
      have HF := Lib.hid hf
      clear hf ho
      go_enter Tryd.func9, Tryd.ntmps9
      go_wp2_with fail
      refine (iNextNumber t p n _).mono ?_
      rintro e w1 ⟨rfl, hb1⟩
      obtain ⟨c0, c1, hz, hb⟩ := map_block hb1
      clear hb1
      go_wp2_with (first | (go_at_call 31; refine (isOdd_any _ _).mono ?_; rintro e w' ⟨rfl, rfl⟩))
      go_ret3
      exact ⟨ret_three HF.out, hb⟩
  · have h' : (aft t p (nx t p) n 1).2 = false := by simpa using h
    have hf : odn t p n = (0, 0, false) := by rw [odn, if_neg (fun x => h x.1)]
    have HF := Lib.hid hf
    clear hf h
    go_enter Tryd.func9, Tryd.ntmps9
    go_wp2_with fail
    refine (iNextNumber t p n _).mono ?_
    rintro e w1 ⟨rfl, hb1⟩
    obtain ⟨c0, c1, hz, hb⟩ := map_block hb1
    clear hb1
    go_wp2_with (first | (go_at_call 31; refine (isOdd_any _ _).mono ?_; rintro e w' ⟨rfl, rfl⟩))
    go_ret3
    exact ⟨ret_three HF.out, hb⟩
end Go.Proofs.YtmocbkpfoddffaaDoor
