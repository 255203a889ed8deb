/-
  PRIMES UP TO A LIMIT: 'maPrime' of the model, 'isPrimeUpTo', 'isSmallPrime' of the program.
-/
import Derived.Test.YtkikmmnmppikpaaFacE
namespace Go.Proofs.Ytkikmmnmppikpaa
open Go.RowKit
set_option linter.unusedVariables false

/-- Is there just one pair, its exponent 1? -/
def one1 : List (Int × Int) → Bool
  | [x] => decide (x.2 = 1)
  | _ => false
/-- Is p a prime of at most m? -/
def prU (m p : Int) : Bool := decide (2 ≤ p ∧ p ≤ m) && one1 (fac 2 p)
theorem one1_no {l : List (Int × Int)} (h : l.length ≠ 1) : one1 l = false := by
  match l, h with
  | [], _ => rfl
  | [x], h => exact (h rfl).elim
  | _ :: _ :: _, _ => rfl
theorem prU_iff {m p : Int} (h : prU m p = true) : 2 ≤ p ∧ p ≤ m := by
  unfold prU at h
  rw [Bool.and_eq_true, decide_eq_true_eq] at h
  exact h.1
theorem prU_out {m p : Int} (h : ¬ (2 ≤ p ∧ p ≤ m)) : prU m p = false := by rw [prU, decide_eq_false h]; rfl
theorem prU_in {m p : Int} (h : 2 ≤ p ∧ p ≤ m) : prU m p = one1 (fac 2 p) := by rw [prU, decide_eq_true h]; rfl
/-- A row of one pair, by its cells. -/
theorem PairsAt.one {w : World} {B : Nat} {v : Value} {x : Int × Int} (h : PairsAt w B v [x]) : ∃ g b cap, v = .slice (some ⟨g, 0, none⟩) 1 cap ∧ g < w.heap.size ∧ b < w.heap.size ∧ w.cell? ⟨g, 0, none⟩ = some (.slice (some ⟨b, 0, none⟩) 2 2) ∧ w.cell? ⟨b, 0, none⟩ = some (.int .i64 x.1) ∧ w.cell? ⟨b, 1, none⟩ = some (.int .i64 x.2) := by
  obtain ⟨a, cap, rfl, hx⟩ := h.at
  obtain ⟨g, b, rfl, _, hg, q, _, hb, hp⟩ := hx 0 (by simp)
  exact ⟨g, b, cap, rfl, hg, hb, q, hp.1, hp.2.1⟩

set_option maxHeartbeats 1000000 in
theorem maPrime_any (p m : Int) (w : World) (hm : m ≤ 100000) :
    Calls Try.prog 46 #[.int .i64 p, .int .i64 m] w fun e w' => e = .returned (.bool (prU m p)) ∧ Below w.heap.size w w' := by
  have HC := Lib.hid (fun w => l1In_any p 2 m w)
  by_cases h : 2 ≤ p ∧ p ≤ m
  · have HE := Lib.hid (prU_in h)
    have HI : Hid (inB p 2 m = true) := Lib.hid (by rw [inB, decide_eq_true h])
    rw [HI.out] at HC
    have HF := Lib.hid (fun w => maFactors_any p w (by omega) (by omega))
    have HL := Lib.hid (fac_len (n := p) (by omega) (by omega))
    obtain ⟨l, hl⟩ : ∃ l, fac 2 p = l := ⟨_, rfl⟩
    rw [hl] at HE HF HL
    clear hl HI
    by_cases h1 : l.length = 1
    · match l, h1 with
      | [x], _ =>
        obtain ⟨x1, x2⟩ := x
        by_cases hx : x2 = 1
        all_goals
          have HE2 : Hid (prU m p = _) := Lib.hid (HE.out.trans (show one1 [(x1, x2)] = decide (x2 = 1) from rfl))
          have hx2 := hx
          go_enter Try.func46, Try.ntmps46
          go_wp2_with fail
          refine (HC.out _).mono ?_
          rintro e w1 ⟨rfl, rfl⟩
          go_wp2_with fail
          refine (HF.out _).mono ?_
          rintro e w2 ⟨v, rfl, hp, hb⟩
          obtain ⟨g, b, cap, rfl, hg, hbb, q1, q2, q3⟩ := hp.one
          dsimp only at q2 q3
          clear hp
          go_wp2_with fail
          go_ret
          exact ⟨ret_bool (by rw [HE2.out]; simp [hx2]), hb⟩
    · have HE2 : Hid (prU m p = false) := Lib.hid (HE.out.trans (one1_no h1))
      have h2 : ¬ ((l.length : Int) = 1) := by omega
      have hl40 : (l.length : Int) ≤ 40 := by have := HL.out; omega
      go_enter Try.func46, Try.ntmps46
      go_wp2_with fail
      refine (HC.out _).mono ?_
      rintro e w1 ⟨rfl, rfl⟩
      go_wp2_with fail
      refine (HF.out _).mono ?_
      rintro e w2 ⟨v, rfl, hp, hb⟩
      obtain ⟨a, cap, rfl, _⟩ := hp.at
      generalize l.length = K at *
      clear hp
      go_wp2_with fail
      go_ret
      exact ⟨ret_bool HE2.out.symm, hb⟩
  · have HE := Lib.hid (prU_out h)
    have HI : Hid (inB p 2 m = false) := Lib.hid (by rw [inB, decide_eq_false h])
    rw [HI.out] at HC
    clear h
    go_enter Try.func46, Try.ntmps46
    go_wp2_with fail
    refine (HC.out _).mono ?_
    rintro e w1 ⟨rfl, rfl⟩
    go_wp2_with fail
    go_ret
    exact ⟨ret_bool HE.out.symm, Below.refl _ _⟩

set_option maxHeartbeats 1000000 in
theorem isPrimeUpTo_any (p m : Int) (w : World) (hm : m ≤ 100000) :
    Calls Try.prog 80 #[.int .i64 m, .int .i64 p] w fun e w' => e = .returned (.bool (prU m p)) ∧ Below w.heap.size w w' := by
  by_cases hpm : m < p
  · have HE := Lib.hid (prU_out (m := m) (p := p) (by omega))
    go_enter Try.func80, Try.ntmps80
    go_wp2_with fail
    go_ret
    exact ⟨ret_bool HE.out.symm, Below.refl _ _⟩
  have HF := Lib.hid (fun w => iExponentsOf p w)
  have HL := Lib.hid (expL_len p)
  have HX : Hid (∀ x, expL p = [x] → (decide (x.1 = p) = prU m p)) := Lib.hid (fun x hx => by
    have h1 : manB p = true := by
      rcases hb : manB p with _ | _
      · rw [expL, if_neg (by rw [hb]; simp)] at hx; simp at hx
      · rfl
    have h2 := manB_iff.1 h1
    rw [expL, if_pos h1] at hx
    have h3 : 2 ≤ p := by
      rcases (show p = 1 ∨ 2 ≤ p by omega) with rfl | h
      · rw [fac_one (by omega)] at hx; simp at hx
      · exact h
    rw [prU_in ⟨h3, by omega⟩, hx]
    have := prB_first h3 hx
    simp [one1, ← this])
  have HN : Hid ((expL p).length ≠ 1 → prU m p = false) := Lib.hid (fun hx => by
    by_cases h3 : 2 ≤ p ∧ p ≤ m
    · rw [expL, if_pos (manB_iff.2 (by omega))] at hx
      rw [prU_in h3, one1_no hx]
    · exact prU_out h3)
  generalize expL p = l at HF HL HX HN
  generalize manB p = ok at HF
  by_cases h1 : l.length = 1
  · match l, h1 with
    | [x], _ =>
      obtain ⟨x1, x2⟩ := x
      have HE := Lib.hid (HX.out _ rfl)
      by_cases hx : x1 = p
      all_goals
        have hx2 := hx
        clear HX HN
        go_enter Try.func80, Try.ntmps80
        go_wp2_with fail
        refine (HF.out _).mono ?_
        rintro e w2 ⟨v, rfl, hp, hb⟩
        obtain ⟨g, b, cap, rfl, hg, hbb, q1, q2, q3⟩ := hp.one
        dsimp only at q2 q3
        clear hp
        go_wp2_with fail
        go_ret
        exact ⟨ret_bool (by rw [← HE.out]; simp [hx2]), hb⟩
  · have HE := Lib.hid (HN.out h1)
    have h2 : ¬ ((l.length : Int) = 1) := by omega
    have hl40 : (l.length : Int) ≤ 300 := by have := HL.out; omega
    clear HX HN
    go_enter Try.func80, Try.ntmps80
    go_wp2_with fail
    refine (HF.out _).mono ?_
    rintro e w2 ⟨v, rfl, hp, hb⟩
    obtain ⟨a, cap, rfl, _⟩ := hp.at
    generalize l.length = K at *
    clear hp
    go_wp2_with fail
    go_ret
    exact ⟨ret_bool HE.out.symm, hb⟩
end Go.Proofs.Ytkikmmnmppikpaa
