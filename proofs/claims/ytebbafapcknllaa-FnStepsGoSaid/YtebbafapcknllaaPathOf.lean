/-
  'PathOf' of both, and the walk of its law.
-/
import Derived.Test.YtebbafapcknllaaLists
import Derived.Test.YtebbafapcknllaaWalkPath
import Derived.Test.YtebbafapcknllaaYes
namespace Go.Proofs.Ytebbafapcknllaa
open Go.RowKit
set_option linter.unusedVariables false

/-- What PathOf comes to. -/
def pofB (t p n k : Int) : Bool := (aft t p (nx t p) n k).2 && decide (k ≤ 200)
def pofL (t p n k : Int) : List Int := if pofB t p n k = true then pathL (nx t p) n k.toNat else []
theorem pofL_len (t p n k : Int) : (pofL t p n k).length ≤ 1000000000000 := by
  unfold pofL
  split
  · rename_i h
    simp only [pofB, Bool.and_eq_true, decide_eq_true_eq] at h
    rw [pathL_length]; omega
  · simp
theorem aft_two {t p n k : Int} {f : Int → Int} : (aft t p f n k).2 = (askB t p n k && allB f n (k.toNat + 1)) := by
  unfold aft
  by_cases h : askB t p n k = true ∧ allB f n (k.toNat + 1) = true
  · rw [if_pos h, h.1, h.2]; rfl
  · rw [if_neg h]
    by_cases h1 : askB t p n k = true
    · have : allB f n (k.toNat + 1) = false := by simpa using fun x => h ⟨h1, x⟩
      simp [this]
    · simp [h1]

/-- A list handed back, whole: the list, the flag. -/
theorem ret_list {xs : List Int} {ok : Bool} {w w1 w' : World} {v : Value} (hr : IntsAt w' w.heap.size v xs) (hb : Below w.heap.size w w') (hn : xs = [] → v = .slice none 0 0) : RetPath xs ok w (.returned (.tuple #[v, .bool ok])) w' := ⟨v, rfl, hr, hb, hn⟩
theorem ret_nolist {xs : List Int} {ok : Bool} {w w' : World} (hx : xs = []) (ho : ok = false) (hb : Below w.heap.size w w') : RetPath xs ok w (.returned (.tuple #[.slice none 0 0, .bool false])) w' := by
  subst hx ho
  exact ⟨_, rfl, World.ownsRow_nil _ _ _ _, hb, fun _ => rfl⟩

set_option maxHeartbeats 1000000 in
theorem sPathOf (t p n k : Int) (w : World) :
    Calls Try.prog 9 #[.agg #[.int .i64 t, .int .i64 p], .int .i64 n, .int .i64 k] w (RetPath (pofL t p n k) (pofB t p n k) w) := by
  by_cases ha : askB t p n k = true
  · obtain ⟨hg, hn, hk0, hk1⟩ := askB_iff.1 ha
    obtain ⟨K, rfl⟩ : ∃ K : Nat, k = K := ⟨k.toNat, by omega⟩
    have hK : K ≤ 1000 := by omega
    by_cases h2 : K ≤ 200
    · have hd : ((K : Int) ≤ 200) := by omega
      have ho : pofB t p n K = allB (nx t p) n (K + 1) := by rw [pofB, aft_two, ha]; simp [hd]
      have hx : pofL t p n K = pathOr (nx t p) n K := by rw [pofL, pathOr, ho]; rfl
      rw [ho, hx]
      have HG := Lib.hid hg
      have HN := Lib.hid hn
      clear ho hx hg hn
      go_enter Try.func9, Try.ntmps9
      go_wp2_with (go_at_call 37; refine (mpAsked_any _ _ _ _ _).mono ?_; rintro e w1 ⟨rfl, hb1⟩; obtain ⟨c0, c1, hz, hb⟩ := map_block hb1; clear hb1)
      refine (mpPath_any t p n K _ HG.out HN.out hK).mono ?_
      rintro e w2 ⟨v, rfl, hrow, hb2, hnil⟩
      have hrow' : IntsAt w2 w.heap.size v (pathOr (nx t p) n K) := ownsRow_base hrow (Nat.le_of_lt hz)
      have HR := Lib.hid hrow'
      have HNIL := Lib.hid hnil
      have hbb := hb.trans (hb2.mono (Nat.le_of_lt hz))
      clear hrow hrow' hb2 hnil
      go_wp2_with fail
      go_ret2
      exact ⟨v, rfl, HR.out, hbb, HNIL.out⟩
    · have hd : ¬ ((K : Int) ≤ 200) := by omega
      have hgt : 200 < (K : Int) := by omega
      have ho : pofB t p n K = false := by rw [pofB]; simp [hd]
      have hx : pofL t p n K = [] := by rw [pofL, ho]; rfl
      have HO := Lib.hid ho
      have HX := Lib.hid hx
      clear ho hx hg hn hd
      go_enter Try.func9, Try.ntmps9
      go_wp2_with (go_at_call 37; refine (mpAsked_any _ _ _ _ _).mono ?_; rintro e w1 ⟨rfl, hb1⟩; obtain ⟨c0, c1, hz, hb⟩ := map_block hb1; clear hb1)
      go_ret2
      exact ret_nolist HX.out HO.out hb
  · have ha' : askB t p n k = false := by simpa using ha
    have ho : pofB t p n k = false := by rw [pofB, aft_two, ha']; rfl
    have hx : pofL t p n k = [] := by rw [pofL, ho]; rfl
    have HO := Lib.hid ho
    have HX := Lib.hid hx
    clear ho hx ha
    go_enter Try.func9, Try.ntmps9
    go_wp2_with (go_at_call 37; refine (mpAsked_any _ _ _ _ _).mono ?_; rintro e w1 ⟨rfl, hb1⟩; obtain ⟨c0, c1, hz, hb⟩ := map_block hb1; clear hb1)
    go_ret2
    exact ret_nolist HX.out HO.out hb

set_option maxHeartbeats 1000000 in
theorem iPathOf (t p n k : Int) (w : World) :
    Calls Try.prog 8 #[.agg #[.int .i64 t, .int .i64 p], .int .i64 n, .int .i64 k] w (RetPath (pofL t p n k) (pofB t p n k) w) := by
  by_cases h2 : k ≤ 200
  · have ho : pofB t p n k = (aft t p (nx t p) n k).2 := by rw [pofB]; simp [h2]
    have hx : pofL t p n k = pathIf t p n k := by rw [pofL, pathIf, ho]
    rw [ho, hx]
    clear ho hx
    go_enter Try.func8, Try.ntmps8
    go_wp2_with fail
    refine (path_any t p n k _).mono ?_
    rintro e w2 ⟨v, rfl, hrow, hb2, hnil⟩
    have hrow' : IntsAt w2 w.heap.size v (pathIf t p n k) := ownsRow_base hrow (by simp)
    have HR := Lib.hid hrow'
    have HNIL := Lib.hid hnil
    have hbb := ((Below.refl _ w).alloc (Nat.le_refl _) _).trans (hb2.mono (by simp))
    clear hrow hrow' hb2 hnil
    go_wp2_with fail
    go_ret2
    exact ⟨v, rfl, HR.out, hbb, HNIL.out⟩
  · have hgt : 200 < k := by omega
    have ho : pofB t p n k = false := by rw [pofB]; simp [h2]
    have hx : pofL t p n k = [] := by rw [pofL, ho]; rfl
    have HO := Lib.hid ho
    have HX := Lib.hid hx
    clear ho hx h2
    go_enter Try.func8, Try.ntmps8
    go_wp2_with fail
    go_ret2
    exact ret_nolist HX.out HO.out ((Below.refl _ w).alloc (Nat.le_refl _) _)
end Go.Proofs.Ytebbafapcknllaa
