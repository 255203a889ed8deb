/-
  'levelsOf', 'increasingLevel' of the program whatever is given; 'LevelOf', 'ShortLevel', 'NumbersBefore', 'ShortBefore'.
-/
import Derived.Test.YtjcpdlamgjpmmaaLevI
import Derived.Test.YtjcpdlamgjpmmaaKeysS
import Derived.Test.YtjcpdlamgjpmmaaLvO
namespace Go.Proofs.Ytjcpdlamgjpmmaa
open Go.RowKit Go.Maps
set_option linter.unusedVariables false

/-- What levelsOf hands back, whatever is given. -/
def RetLevs (short : Bool) (t p r k : Int) (w : World) (e : Ending) (w' : World) : Prop :=
  Below w.heap.size w w' ∧ ((∃ (K : Nat) (xs : List Int) (v : Value), k = K ∧ lvO short t p r k = some xs ∧ levL short t p r K = some xs ∧ e = .returned (.tuple #[v, .bool true]) ∧ LevRow w' w.heap.size v (lvA short t p r K)) ∨ (lvO short t p r k = none ∧ e = .returned (.tuple #[.slice none 0 0, .bool false])))

set_option maxRecDepth 100000 in
set_option maxHeartbeats 2000000 in
theorem levelsOf_bad (t p r k : Int) (fb : Nat) (w : World) (ha : askT t p r k = false) :
    Calls Try.prog 51 #[.agg #[.int .i64 t, .int .i64 p], .int .i64 r, .int .i64 k, .func (.func fb) #[] #[]] w fun e w' => e = .returned (.tuple #[.slice none 0 0, .bool false]) ∧ Below w.heap.size w w' := by
  have HM := Lib.hid (fun w => isMap_any t p w)
  have HN := Lib.hid (fun w => isNumber_any r w)
  have HL := Lib.hid (fun w => isLevel_any k w)
  cases hg : goodB t p
  · rw [hg] at HM
    clear hg ha
    go_enter Try.func51, Try.ntmps51
    go_wp2_with fail
    refine (HM.out _).mono ?_
    rintro e w1 ⟨rfl, hb1⟩
    obtain ⟨c0, c1, hz, hb⟩ := map_block hb1
    clear hb1
    go_wp2_with fail
    go_ret2
    exact ⟨rfl, hb⟩
  · rw [hg] at HM
    cases hn : numB r
    · rw [hn] at HN
      clear hg hn ha
      go_enter Try.func51, Try.ntmps51
      go_wp2_with fail
      refine (HM.out _).mono ?_
      rintro e w1 ⟨rfl, hb1⟩
      obtain ⟨c0, c1, hz, hb⟩ := map_block hb1
      clear hb1
      go_wp2_with (go_at_call 33; refine (HN.out _).mono ?_; rintro e w' ⟨rfl, rfl⟩)
      go_ret2
      exact ⟨rfl, hb⟩
    · rw [hn] at HN
      have hl : inB k 0 20 = false := by simpa [askT, hg, hn] using ha
      rw [hl] at HL
      clear hg hn ha hl
      go_enter Try.func51, Try.ntmps51
      go_wp2_with fail
      refine (HM.out _).mono ?_
      rintro e w1 ⟨rfl, hb1⟩
      obtain ⟨c0, c1, hz, hb⟩ := map_block hb1
      clear hb1
      go_wp2_with (first
        | (go_at_call 33; refine (HN.out _).mono ?_; rintro e w' ⟨rfl, rfl⟩)
        | (go_at_call 32; refine (HL.out _).mono ?_; rintro e w' ⟨rfl, rfl⟩))
      go_ret2
      exact ⟨rfl, hb⟩
theorem levelsOf_any (short : Bool) (hok : bfOk short = true) (t p r k : Int) (w : World) :
    Calls Try.prog 51 #[.agg #[.int .i64 t, .int .i64 p], .int .i64 r, .int .i64 k, .func (.func (bfF short)) #[] #[]] w (RetLevs short t p r k w) := by
  cases ha : askT t p r k
  · refine (levelsOf_bad t p r k _ w ha).mono ?_
    rintro e w' ⟨rfl, hb⟩
    exact ⟨hb, .inr ⟨lvO_no ha, rfl⟩⟩
  · obtain ⟨h1, h2, _, K, rfl, hK⟩ := askT_parts ha
    refine (levelsOf_yes short hok t p r K w h1 h2 hK).mono ?_
    rintro e w' ⟨hb, h⟩
    refine ⟨hb, ?_⟩
    rw [lvO_yes ha]
    rcases h with ⟨xs, v, h3, rfl, h4⟩ | ⟨h3, rfl⟩
    · exact .inl ⟨K, xs, v, rfl, h3, h3, rfl, h4⟩
    · exact .inr ⟨h3, rfl⟩

set_option maxRecDepth 100000 in
set_option maxHeartbeats 2000000 in
theorem increasingLevel_any (short : Bool) (hok : bfOk short = true) (t p r k : Int) (w : World) :
    Calls Try.prog 38 #[.agg #[.int .i64 t, .int .i64 p], .int .i64 r, .int .i64 k, .func (.func (bfF short)) #[] #[]] w (RetInts (lvX short t p r k) (lvB short t p r k) w) := by
  have HL := Lib.hid (fun w => levelsOf_any short hok t p r k w)
  generalize bfF short = fb at HL ⊢
  go_enter Try.func38, Try.ntmps38
  go_wp2_with fail
  refine (HL.out _).mono ?_
  rintro e w1 ⟨hb1, (⟨K, xs, v, rfl, ho, hxs, rfl, hlev⟩ | ⟨ho, rfl⟩)⟩
  · obtain ⟨c0, c1, hz, hb⟩ := map_block hb1
    obtain ⟨_, hg, hr, _⟩ := lvO_some ho
    have hll := lvA_length short t p r K
    obtain ⟨g, cap, b, rfl, hgB, hgl, hcap, hcm, q, hset⟩ := hlev.at (k := K) (by omega)
    rw [lvA_at _ _ _ _ (Nat.le_refl _), hxs, Option.getD_some] at hset
    have HSET := Lib.hid hset
    have HLT := Lib.hid (levL_lt hg hxs)
    have HLEN := Lib.hid (levL_len hxs)
    have HB := Lib.hid hb
    have HX : Hid (lvX short t p r K = xs) := Lib.hid (by rw [lvX, ho]; rfl)
    have HBB : Hid (lvB short t p r K = true) := Lib.hid (by rw [lvB, ho]; rfl)
    rw [hll] at hcap ⊢
    have hcap2 : (K : Int) + 1 ≤ (cap : Int) := by omega
    have hcm2 : (cap : Int) ≤ 9223372036854775807 := by unfold maxLen at hcm; omega
    clear hb1 hb hset hxs ho hlev hll hcm hg hr c0 c1 HL
    go_wp2_with (go_at_call 59; refine (keysB_any _ _).mono ?_; rintro e w2 ⟨rfl, rfl⟩)
    refine (sortedS_any w1.heap.size b xs _ (by simp) (by go_simp) (HSET.out.under (((Below.refl _ w1).alloc (Nat.le_refl _) _)) HSET.out.lt) HLT.out (by have := HLEN.out; omega)).mono ?_
    rintro e w3 ⟨v, rfl, hrow, hb3⟩
    have HB3 : Hid (Below w.heap.size w w3) := Lib.hid (HB.out.trans ((((Below.refl _ w1).alloc (Nat.le_refl _) _).trans (hb3.mono (by simp))).mono (Nat.le_of_lt hz)))
    have HR3 : Hid (IntsAt w3 w.heap.size v xs) := Lib.hid (ownsRow_base hrow (by simp; omega))
    clear hrow hb3
    go_wp2_with fail
    go_ret2
    rw [HBB.out, HX.out]
    exact ⟨v, rfl, HR3.out, HB3.out⟩
  · obtain ⟨c0, c1, hz, hb⟩ := map_block hb1
    have HX : Hid (lvX short t p r k = []) := Lib.hid (by rw [lvX, ho]; rfl)
    have HBB : Hid (lvB short t p r k = false) := Lib.hid (by rw [lvB, ho]; rfl)
    clear hb1 ho HL
    go_wp2_with fail
    go_ret2
    exact retI_none' HX.out HBB.out hb

theorem iLevelOf (t p r k : Int) (w : World) :
    Calls Try.prog 28 #[.agg #[.int .i64 t, .int .i64 p], .int .i64 r, .int .i64 k] w (RetInts (lvX false t p r k) (lvB false t p r k) w) := by
  have HL := Lib.hid (fun w => increasingLevel_any false rfl t p r k w)
  rw [show bfF false = 52 from rfl] at HL
  go_enter Try.func28, Try.ntmps28
  go_wp2_with fail
  refine (HL.out _).mono ?_
  rintro e w1 ⟨v, rfl, hrow, hb1⟩
  obtain ⟨c0, c1, hz, hb⟩ := map_block hb1
  have HR : Hid (IntsAt w1 w.heap.size v (lvX false t p r k)) := Lib.hid (ownsRow_base hrow (by simp))
  clear hrow hb1 HL
  go_wp2_with fail
  go_ret2
  exact ⟨v, rfl, HR.out, hb⟩

theorem iShortLevel (t p r k : Int) (w : World) :
    Calls Try.prog 8 #[.agg #[.int .i64 t, .int .i64 p], .int .i64 r, .int .i64 k] w (RetInts (lvX true t p r k) (lvB true t p r k) w) := by
  have HL := Lib.hid (fun w => increasingLevel_any true rfl t p r k w)
  rw [show bfF true = 39 from rfl] at HL
  go_enter Try.func8, Try.ntmps8
  go_wp2_with fail
  refine (HL.out _).mono ?_
  rintro e w1 ⟨v, rfl, hrow, hb1⟩
  obtain ⟨c0, c1, hz, hb⟩ := map_block hb1
  have HR : Hid (IntsAt w1 w.heap.size v (lvX true t p r k)) := Lib.hid (ownsRow_base hrow (by simp))
  clear hrow hb1 HL
  go_wp2_with fail
  go_ret2
  exact ⟨v, rfl, HR.out, hb⟩

theorem iShortBefore (t p r : Int) (w : World) :
    Calls Try.prog 15 #[.agg #[.int .i64 t, .int .i64 p], .int .i64 r] w (RetInts (lvX true t p r 1) (lvB true t p r 1) w) := by
  have HL := Lib.hid (fun w => iShortLevel t p r 1 w)
  go_enter Try.func15, Try.ntmps15
  go_wp2_with fail
  refine (HL.out _).mono ?_
  rintro e w1 ⟨v, rfl, hrow, hb1⟩
  obtain ⟨c0, c1, hz, hb⟩ := map_block hb1
  have HR : Hid (IntsAt w1 w.heap.size v (lvX true t p r 1)) := Lib.hid (ownsRow_base hrow (by simp))
  clear hrow hb1 HL
  go_wp2_with fail
  go_ret2
  exact ⟨v, rfl, HR.out, hb⟩
end Go.Proofs.Ytjcpdlamgjpmmaa
