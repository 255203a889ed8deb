/-
  THE NUMBERS OF A PATH AS KEYS OF A MAP, AND WHAT THE MAP READS AS. No program.
-/
import Derived.Test.YtponmblponfdaaaOrbM
import Derived.Maps.Views
import Derived.Lib.SlKeysI
namespace Go.Proofs.Ytponmblponfdaaa
open Go.Maps

/-- The first k numbers of a way, each with how many steps lead to it. -/
def seenD (f : Int → Int) (n : Int) : Nat → DataW Unit
  | 0 => .map []
  | k + 1 => (seenD f n k).put (.int .i64 (itr f k n)) (.lit (.int .i64 (k : Int)))
theorem seen_isMap (f : Int → Int) (n : Int) (k : Nat) : IsMap (seenD f n k) := by
  induction k with
  | zero => exact isMap_empty
  | succ k ih => exact ih.put _ _
theorem key_inj {x y : Int} (h : (Lit.int .i64 x) = Lit.int .i64 y) : x = y := by injection h
theorem key_ok (x : Int) : WideAt.IsKeyLit (.int .i64 x) := trivial
theorem key_ne {x y : Int} (h : x ≠ y) : (Lit.int .i64 x) ≠ Lit.int .i64 y := fun e => h (key_inj e)
theorem seen_at {f : Int → Int} {n : Int} {k : Nat} (hd : Diff f n k) {i : Nat} (hi : i < k) (z : DataW Unit) : (seenD f n k).atKey (.int .i64 (itr f i n)) z = .lit (.int .i64 (i : Int)) := by
  induction k with
  | zero => omega
  | succ k ih =>
    have hd' : Diff f n k := fun a b h1 h2 => hd a b h1 (by omega)
    by_cases e : i = k
    · subst e; exact atKey_put_same (seen_isMap f n i) (key_ok _) _ _
    · rw [seenD, atKey_put_other (key_ne (hd i k (by omega) (by omega)))]
      exact ih hd' (by omega)
theorem seen_has {f : Int → Int} {n : Int} {k : Nat} {i : Nat} (hi : i < k) : has (seenD f n k) (.int .i64 (itr f i n)) = true := by
  induction k with
  | zero => omega
  | succ k ih =>
    by_cases e : itr f i n = itr f k n
    · rw [seenD, e]; exact has_put_same (seen_isMap f n k) (key_ok _) _
    · rw [seenD, has_put_other (key_ne e)]
      by_cases ek : i = k
      · subst ek; exact absurd rfl e
      · exact ih (by omega)
theorem seen_key {f : Int → Int} {n : Int} {k : Nat} {kl : Lit} (h : has (seenD f n k) kl = true) : ∃ j, j < k ∧ kl = .int .i64 (itr f j n) := by
  induction k with
  | zero => cases h
  | succ k ih =>
    by_cases e : kl = .int .i64 (itr f k n)
    · exact ⟨k, Nat.lt_succ_self k, e⟩
    · rw [seenD, has_put_other e] at h
      obtain ⟨j, h1, h2⟩ := ih h
      exact ⟨j, by omega, h2⟩
theorem seen_not {f : Int → Int} {n : Int} {k : Nat} (h : posOf f n k = none) : has (seenD f n k) (.int .i64 (itr f k n)) = false := by
  rw [Bool.eq_false_iff]
  intro hh
  obtain ⟨j, h1, h2⟩ := seen_key hh
  exact posOf_none h j h1 (key_inj h2).symm
theorem seen_yes {f : Int → Int} {n : Int} {k i : Nat} (h : posOf f n k = some i) : has (seenD f n k) (.int .i64 (itr f k n)) = true := by
  obtain ⟨h1, h2⟩ := posOf_some h
  rw [← h2]
  exact seen_has h1
theorem seen_tidy (f : Int → Int) (n : Int) (k : Nat) : Tidy (seenD f n k) := by
  induction k with
  | zero => exact tidy_empty
  | succ k ih => exact ih.put (key_ok _) _
theorem seen_size {f : Int → Int} {n : Int} {k : Nat} (hd : Diff f n k) : size (seenD f n k) = k := by
  induction k with
  | zero => rfl
  | succ k ih =>
    have hd' : Diff f n k := fun a b h1 h2 => hd a b h1 (by omega)
    have hn : has (seenD f n k) (.int .i64 (itr f k n)) = false := by
      rw [Bool.eq_false_iff]
      intro hh
      obtain ⟨j, h1, h2⟩ := seen_key hh
      exact hd j k h1 (Nat.lt_succ_self k) (key_inj h2).symm
    rw [seenD, size_put (seen_tidy f n k), hn, ih hd']
    rfl
theorem numB_wf {n : Int} (h : numB n = true) : (Lit.int .i64 n).wf = true := by
  have h2 := numB_iff.1 h
  rw [Lit.wf]
  have e2 : IntKind.i64.min = -9223372036854775808 := rfl
  have e3 : IntKind.i64.max = 9223372036854775807 := rfl
  simp only [e2, e3, Bool.and_eq_true, decide_eq_true_eq]
  omega
theorem nat_wf {n : Nat} (h : n ≤ 100000) : (Lit.int .i64 (n : Int)).wf = true := by
  rw [Lit.wf]
  have e2 : IntKind.i64.min = -9223372036854775808 := rfl
  have e3 : IntKind.i64.max = 9223372036854775807 := rfl
  simp only [e2, e3, Bool.and_eq_true, decide_eq_true_eq]
  omega

/-- WHAT IS LEFT OF THE MAP WHILE IT IS STRUCK OUT, some entries still to come: those of the cycle stay, those ahead of it are there while they are to come. -/
structure Left (f : Int → Int) (n : Int) (K i : Nat) (left : Lit → Bool) (D : DataW Unit) : Prop where
  stay : ∀ j, i ≤ j → j < K → has D (.int .i64 (itr f j n)) = true
  come : ∀ j, j < i → has D (.int .i64 (itr f j n)) = left (.int .i64 (itr f j n))
  key : ∀ kl, has D kl = true → ∃ j, j < K ∧ kl = .int .i64 (itr f j n) ∧ ∀ z, D.atKey kl z = .lit (.int .i64 (j : Int))
theorem Left.start {f : Int → Int} {n : Int} {K i : Nat} (h : Fnd f n K i) : Left f n K i (has (seenD f n K)) (seenD f n K) :=
  ⟨fun j _ h2 => seen_has h2, fun _ _ => rfl, fun kl hk => by
    obtain ⟨j, h1, rfl⟩ := seen_key hk
    exact ⟨j, h1, rfl, fun z => seen_at h.diff h1 z⟩⟩
theorem Left.at {f : Int → Int} {n : Int} {K i : Nat} {left : Lit → Bool} {D : DataW Unit} (h : Left f n K i left D) {x c : Int} (hat : ∀ z, D.atKey (.int .i64 x) z = .lit (.int .i64 c)) :
    ∃ j : Nat, j < K ∧ x = itr f j n ∧ c = (j : Int) := by
  obtain ⟨j, h1, h2, h3⟩ := h.key _ (has_true_of_atKey hat)
  refine ⟨j, h1, key_inj h2, ?_⟩
  have := (h3 (.map [])).symm.trans (hat (.map []))
  injection this with e
  exact (key_inj e).symm
theorem sameKey_int (x y : Int) : (Lit.int .i64 x).sameKey (.int .i64 y) = decide (x = y) := by simp [Lit.sameKey]
theorem Left.struck {f : Int → Int} {n : Int} {K i : Nat} {left : Lit → Bool} {D : DataW Unit} (hF : Fnd f n K i) (h : Left f n K i left D) {j : Nat} (hj : j < i) :
    Left f n K i (fun z => left z && !z.sameKey (.int .i64 (itr f j n))) (D.del (.int .i64 (itr f j n))) := by
  have hi := hF.lt
  refine ⟨fun a h1 h2 => ?_, fun a h1 => ?_, fun kl hk => ?_⟩
  · rw [has_del_other (key_ne fun e => hF.diff j a (by omega) h2 e.symm)]
    exact h.stay a h1 h2
  · rw [sameKey_int]
    by_cases e : a = j
    · subst e; rw [has_del_same]; simp
    · have hne : itr f a n ≠ itr f j n := by
        rcases Nat.lt_or_gt_of_ne e with e' | e'
        · exact hF.diff a j e' (by omega)
        · exact fun e2 => hF.diff j a e' (by omega) e2.symm
      rw [has_del_other (key_ne hne), h.come a h1]
      simp [hne]
  · by_cases e : kl = .int .i64 (itr f j n)
    · subst e; rw [has_del_same] at hk; cases hk
    · rw [has_del_other e] at hk
      obtain ⟨a, h1, h2, h3⟩ := h.key kl hk
      exact ⟨a, h1, h2, fun z => by rw [atKey_del_other e]; exact h3 z⟩
theorem Left.stays {f : Int → Int} {n : Int} {K i : Nat} {left : Lit → Bool} {D : DataW Unit} (hF : Fnd f n K i) (h : Left f n K i left D) {j : Nat} (hj : i ≤ j) (hK : j < K) :
    Left f n K i (fun z => left z && !z.sameKey (.int .i64 (itr f j n))) D := by
  refine ⟨h.stay, fun a h1 => ?_, h.key⟩
  rw [sameKey_int, h.come a h1]
  have hne : itr f a n ≠ itr f j n := hF.diff a j (by omega) hK
  simp [hne]
/-- At the end: just the cycle's numbers are keys. -/
theorem Left.fin {f : Int → Int} {n : Int} {K i : Nat} {left : Lit → Bool} {D : DataW Unit} (h : Left f n K i left D) (hl : ∀ kl, left kl = false) (x : Int) :
    has D (.int .i64 x) = true ↔ x ∈ cycL f n K i := by
  rw [cycL_mem]
  constructor
  · intro hx
    obtain ⟨j, h1, h2, _⟩ := h.key _ hx
    have hxj : x = itr f j n := key_inj h2
    refine ⟨j, ?_, h1, hxj.symm⟩
    refine Nat.le_of_not_lt fun hj => ?_
    have := h.come j hj
    rw [hl, ← hxj, hx] at this
    cases this
  · rintro ⟨j, h1, h2, rfl⟩
    exact h.stay j h1 h2
theorem Left.collected {f : Int → Int} {n : Int} {K i : Nat} {left : Lit → Bool} {D : DataW Unit} (hF : Fnd f n K i) (h : Left f n K i left D) (hl : ∀ kl, left kl = false) : CollectedI D left (cycL f n K i) :=
  ⟨hF.nodup, fun x => by rw [h.fin hl, hl]; simp⟩
end Go.Proofs.Ytponmblponfdaaa
