/-
  MACHINES: their lists read; 'maGood' of the model, 'IsMachine' of the program; what the laws do to a machine.
-/
import Derived.Test.YtgobjobppajkbaaDoorCopyI
import Derived.Test.YtgobjobppajkbaaDoorMaM
import Derived.Test.YtgobjobppajkbaaDoorPartA
import Derived.Deep.RegionWith
namespace Go.Proofs.YtgobjobppajkbaaDoor
open Go.RowKit
set_option linter.unusedVariables false

theorem IntsIn.rd {w : World} {v : Value} {xs : List Int} (h : IntsIn w v xs) : ∃ a cap, v = .slice a xs.length cap ∧ ∀ j, j < xs.length → ∃ g, a = some ⟨g, 0, none⟩ ∧ g < w.heap.size ∧ w.cell? ⟨g, j, none⟩ = some (.int .i64 (xs.getD j 0)) := by
  obtain ⟨a, cap, rfl, hx⟩ := h
  refine ⟨a, cap, rfl, fun j hj => ?_⟩
  obtain ⟨g, rfl, hg, hr⟩ := hx (by rintro rfl; simp at hj)
  exact ⟨g, rfl, hg, (hr j hj).1⟩
theorem inAll_nil (lo hi : Int) : inAll [] lo hi = true := rfl
theorem inAll_step {xs : List Int} {lo hi : Int} {j : Nat} (hj : j < xs.length) (h : inAll (xs.take j) lo hi = true) (hx : inB (xs.getD j 0) lo hi = true) : inAll (xs.take (j + 1)) lo hi = true := by
  unfold inAll at *
  rw [List.take_add_one, List.all_append, h, List.getElem?_eq_getElem hj]
  rw [List.getD_eq_getElem?_getD, List.getElem?_eq_getElem hj] at hx
  simpa [inB] using hx
theorem inAll_bad {xs : List Int} {lo hi : Int} {j : Nat} (hj : j < xs.length) (hx : inB (xs.getD j 0) lo hi = false) : inAll xs lo hi = false := by
  rw [List.getD_eq_getElem?_getD, List.getElem?_eq_getElem hj] at hx
  unfold inAll
  rw [List.all_eq_false]
  exact ⟨_, List.getElem_mem hj, by simpa [inB] using hx⟩

set_option maxHeartbeats 1000000 in
theorem l1All_any (xs : List Int) (v : Value) (lo hi : Int) (w : World) (hl : xs.length ≤ 1048576) (h : IntsIn w v xs) :
    Calls Tryd.prog 113 #[v, .int .i64 lo, .int .i64 hi] w fun e w' => e = .returned (.bool (inAll xs lo hi)) ∧ w = w' := by
  obtain ⟨a, cap, rfl, hx⟩ := h.rd
  obtain ⟨K, hK⟩ : ∃ K, xs.length = K := ⟨_, rfl⟩
  have HST := Lib.hid (fun j (hj : j < K) => inAll_step (xs := xs) (lo := lo) (hi := hi) (j := j) (by omega))
  have HBD := Lib.hid (fun j (hj : j < K) => inAll_bad (xs := xs) (lo := lo) (hi := hi) (j := j) (by omega))
  have HF : Hid (xs.take K = xs) := Lib.hid (by rw [← hK]; exact List.take_length)
  rw [hK] at hx hl ⊢
  have HX := Lib.hid hx
  have hK2 : (K : Int) ≤ 1048576 := by omega
  clear hx hK hl h
  go_enter Tryd.func113, Tryd.ntmps113
  go_wp2_with fail
  go_loop [11] (fun i => ∃ j : Nat, j ≤ K ∧ i = .int .i64 j ∧ inAll (xs.take j) lo hi = true) (fun i => K - (RowKit.intOf i).toNat)
  case atStart => exact ⟨0, Nat.zero_le _, rfl, by simp [inAll]⟩
  case round =>
    obtain ⟨j, hj, rfl, hall⟩ := hrel
    have HALL := Lib.hid hall
    clear hall
    by_cases hlt : j < K
    · obtain ⟨g, rfl, hg, q⟩ := HX.out j hlt
      have HS := Lib.hid (HST.out j hlt)
      have HB := Lib.hid (HBD.out j hlt)
      obtain ⟨x, hx⟩ : ∃ x, xs.getD j 0 = x := ⟨_, rfl⟩
      rw [hx] at q HS
      rw [hx] at HB
      have hlt2 : (j : Int) < (K : Int) := by omega
      have HC := Lib.hid (fun w => l1In_any x lo hi w)
      clear hx
      cases hb : inB x lo hi with
      | true =>
        rw [hb] at HC HS
        clear HB hb
        go_wp2_with (go_at_call 72; refine (HC.out _).mono ?_; rintro e w1 ⟨rfl, rfl⟩)
        exact ⟨⟨j + 1, hlt, by go_num, HS.out HALL.out (by simp)⟩, by simp [RowKit.intOf]; omega⟩
      | false =>
        rw [hb] at HC HB
        clear HS hb
        go_wp2_with (go_at_call 72; refine (HC.out _).mono ?_; rintro e w1 ⟨rfl, rfl⟩)
        go_ret
        exact ⟨ret_bool (HB.out (by simp)).symm, rfl⟩
    · obtain rfl : j = K := by omega
      have hlt2 : ¬ ((j : Int) < (j : Int)) := by omega
      go_wp2_with fail
      go_ret
      exact ⟨ret_bool (by rw [← HALL.out, HF.out]), rfl⟩

set_option maxHeartbeats 1000000 in
theorem areParts_any (xs : List Int) (v : Value) (w : World) (hl : xs.length ≤ 1048576) (h : IntsIn w v xs) :
    Calls Tryd.prog 117 #[v] w fun e w' => e = .returned (.bool (inAll xs 1 100000)) ∧ w = w' := by
  obtain ⟨a, cap, rfl, hx⟩ := h.rd
  obtain ⟨K, hK⟩ : ∃ K, xs.length = K := ⟨_, rfl⟩
  have HST := Lib.hid (fun j (hj : j < K) => inAll_step (xs := xs) (lo := 1) (hi := 100000) (j := j) (by omega))
  have HBD := Lib.hid (fun j (hj : j < K) => inAll_bad (xs := xs) (lo := 1) (hi := 100000) (j := j) (by omega))
  have HF : Hid (xs.take K = xs) := Lib.hid (by rw [← hK]; exact List.take_length)
  rw [hK] at hx hl ⊢
  have HX := Lib.hid hx
  have hK2 : (K : Int) ≤ 1048576 := by omega
  clear hx hK hl h
  go_enter Tryd.func117, Tryd.ntmps117
  go_wp2_with fail
  go_loop [7] (fun i => ∃ j : Nat, j ≤ K ∧ i = .int .i64 j ∧ inAll (xs.take j) 1 100000 = true) (fun i => K - (RowKit.intOf i).toNat)
  case atStart => exact ⟨0, Nat.zero_le _, rfl, by simp [inAll]⟩
  case round =>
    obtain ⟨j, hj, rfl, hall⟩ := hrel
    have HALL := Lib.hid hall
    clear hall
    by_cases hlt : j < K
    · obtain ⟨g, rfl, hg, q⟩ := HX.out j hlt
      have HS := Lib.hid (HST.out j hlt)
      have HB := Lib.hid (HBD.out j hlt)
      obtain ⟨x, hx⟩ : ∃ x, xs.getD j 0 = x := ⟨_, rfl⟩
      rw [hx] at q HS
      rw [hx] at HB
      have hlt2 : (j : Int) < (K : Int) := by omega
      clear hx
      by_cases h1 : x < 1
      · go_wp2_with fail
        go_ret
        exact ⟨ret_bool (HB.out (by simp [inB]; omega)).symm, rfl⟩
      · by_cases h2 : 100000 < x
        · go_wp2_with fail
          go_ret
          exact ⟨ret_bool (HB.out (by simp [inB]; omega)).symm, rfl⟩
        · go_wp2_with fail
          exact ⟨⟨j + 1, hlt, by go_num, HS.out HALL.out (by simp [inB]; omega)⟩, by simp [RowKit.intOf]; omega⟩
    · obtain rfl : j = K := by omega
      have hlt2 : ¬ ((j : Int) < (j : Int)) := by omega
      go_wp2_with fail
      go_ret
      exact ⟨ret_bool (by rw [← HALL.out, HF.out]), rfl⟩

/-- A machine that can be read. -/
def MacIn (w : World) (v : Value) (ns ds : List Int) : Prop := ∃ v1 v2, v = .agg #[v1, v2] ∧ IntsIn w v1 ns ∧ IntsIn w v2 ds
theorem MacIn.kept {w w' : World} {v : Value} {ns ds : List Int} (h : MacIn w v ns ds) (hb : Below w.heap.size w w') : MacIn w' v ns ds := by
  obtain ⟨v1, v2, rfl, h1, h2⟩ := h
  exact ⟨v1, v2, rfl, h1.kept hb, h2.kept hb⟩
theorem IntsIn.form {w : World} {v : Value} {xs : List Int} (h : IntsIn w v xs) : ∃ a cap, v = .slice a xs.length cap := by
  obtain ⟨a, cap, rfl, _⟩ := h
  exact ⟨a, cap, rfl⟩
theorem maB_len {ns ds : List Int} (h : ns.length ≠ ds.length) : maB ns ds = false := by simp [maB, h]
theorem maB_12 {ns ds : List Int} (h : 12 < ns.length) : maB ns ds = false := by simp [maB]; intro _ h2; omega
theorem maB_all {ns ds : List Int} (h : ns.length = ds.length) (h2 : ns.length ≤ 12) : maB ns ds = (inAll ns 1 100000 && inAll ds 1 100000) := by
  have e1 : decide (ns.length = ds.length) = true := by simpa using h
  have e2 : decide (ns.length ≤ 12) = true := by simpa using h2
  rw [maB, e1, e2]; rfl

set_option maxHeartbeats 2000000 in
theorem maGood_any (ns ds : List Int) (v : Value) (w : World) (h1 : ns.length ≤ 1048576) (h2 : ds.length ≤ 1048576) (h : MacIn w v ns ds) :
    Calls Tryd.prog 82 #[v] w fun e w' => e = .returned (.bool (maB ns ds)) ∧ Below w.heap.size w w' := by
  obtain ⟨v1, v2, rfl, i1, i2⟩ := h
  have hw2 : ∀ (W : World), Below w.heap.size w W → Calls Tryd.prog 113 #[v1, .int .i64 1, .int .i64 100000] W fun e w' => e = .returned (.bool (inAll ns 1 100000)) ∧ W = w' := fun W hb => l1All_any ns v1 1 100000 W h1 (i1.kept hb)
  have hw3 : ∀ (W : World), Below w.heap.size w W → Calls Tryd.prog 113 #[v2, .int .i64 1, .int .i64 100000] W fun e w' => e = .returned (.bool (inAll ds 1 100000)) ∧ W = w' := fun W hb => l1All_any ds v2 1 100000 W h2 (i2.kept hb)
  have HB := Lib.hid (fun X => (Below.refl w.heap.size w).alloc (Nat.le_refl _) X)
  obtain ⟨a1, c1, rfl⟩ := i1.form
  obtain ⟨a2, c2, rfl⟩ := i2.form
  have h3 : (ns.length : Int) ≤ 1048576 := by omega
  have h4 : (ds.length : Int) ≤ 1048576 := by omega
  by_cases hl : ns.length = ds.length
  case neg =>
    have HE := Lib.hid (maB_len hl)
    have hl2 : ¬ (ns.length : Int) = (ds.length : Int) := by omega
    generalize ns.length = K1 at *
    generalize ds.length = K2 at *
    clear hw2 hw3 i1 i2 hl
    go_enter Tryd.func82, Tryd.ntmps82
    go_wp2_with fail
    go_ret
    exact ⟨ret_bool HE.out.symm, HB.out _⟩
  case pos =>
    by_cases h12 : ns.length ≤ 12
    case neg =>
      have HE := Lib.hid (maB_12 (ds := ds) (show 12 < ns.length by omega))
      have h13 : ¬ (ns.length : Int) ≤ 12 := by omega
      rw [← hl] at hw3 ⊢
      generalize ns.length = K1 at *
      clear hw2 hw3 i1 i2 hl h2 h4 h12
      go_enter Tryd.func82, Tryd.ntmps82
      go_wp2_with fail
      go_ret
      exact ⟨ret_bool HE.out.symm, HB.out _⟩
    case pos =>
      have HE := Lib.hid (maB_all hl h12)
      have h13 : (ns.length : Int) ≤ 12 := by omega
      have HW2 := Lib.hid (fun X => hw2 _ (HB.out X))
      have HW3 := Lib.hid (fun X => hw3 _ (HB.out X))
      generalize inAll ns 1 100000 = b1 at HE HW2
      generalize inAll ds 1 100000 = b2 at HE HW3
      rw [← hl] at HW3 ⊢
      generalize ns.length = K1 at *
      clear hw2 hw3 i1 i2 hl h2 h4 h12 h1
      cases b1
      case false =>
        clear HW3
        go_enter Tryd.func82, Tryd.ntmps82
        go_wp2_with fail
        refine (HW2.out _).mono ?_
        rintro e w2 ⟨rfl, rfl⟩
        go_wp2_with fail
        go_ret
        exact ⟨ret_bool (by rw [HE.out]; rfl), HB.out _⟩
      case true =>
        cases b2
        all_goals
          go_enter Tryd.func82, Tryd.ntmps82
          go_wp2_with fail
          refine (HW2.out _).mono ?_
          rintro e w2 ⟨rfl, rfl⟩
          go_wp2_with fail
          refine (HW3.out _).mono ?_
          rintro e w2 ⟨rfl, rfl⟩
          go_wp2_with fail
          go_ret
          exact ⟨ret_bool (by rw [HE.out]; rfl), HB.out _⟩

set_option maxHeartbeats 2000000 in
theorem isMachine_any (ns ds : List Int) (v : Value) (w : World) (h1 : ns.length ≤ 1048576) (h2 : ds.length ≤ 1048576) (h : MacIn w v ns ds) :
    Calls Tryd.prog 86 #[v] w fun e w' => e = .returned (.bool (maB ns ds)) ∧ Below w.heap.size w w' := by
  obtain ⟨v1, v2, rfl, i1, i2⟩ := h
  have hw2 : ∀ (W : World), Below w.heap.size w W → Calls Tryd.prog 117 #[v1] W fun e w' => e = .returned (.bool (inAll ns 1 100000)) ∧ W = w' := fun W hb => areParts_any ns v1 W h1 (i1.kept hb)
  have hw3 : ∀ (W : World), Below w.heap.size w W → Calls Tryd.prog 117 #[v2] W fun e w' => e = .returned (.bool (inAll ds 1 100000)) ∧ W = w' := fun W hb => areParts_any ds v2 W h2 (i2.kept hb)
  have HB := Lib.hid (fun X => (Below.refl w.heap.size w).alloc (Nat.le_refl _) X)
  obtain ⟨a1, c1, rfl⟩ := i1.form
  obtain ⟨a2, c2, rfl⟩ := i2.form
  have h3 : (ns.length : Int) ≤ 1048576 := by omega
  have h4 : (ds.length : Int) ≤ 1048576 := by omega
  by_cases hl : ns.length = ds.length
  case neg =>
    have HE := Lib.hid (maB_len hl)
    have hl2 : ¬ (ns.length : Int) = (ds.length : Int) := by omega
    generalize ns.length = K1 at *
    generalize ds.length = K2 at *
    clear hw2 hw3 i1 i2 hl
    go_enter Tryd.func86, Tryd.ntmps86
    go_wp2_with fail
    go_ret
    exact ⟨ret_bool HE.out.symm, HB.out _⟩
  case pos =>
    by_cases h12 : ns.length ≤ 12
    case neg =>
      have HE := Lib.hid (maB_12 (ds := ds) (show 12 < ns.length by omega))
      have h13 : ¬ (ns.length : Int) ≤ 12 := by omega
      rw [← hl] at hw3 ⊢
      generalize ns.length = K1 at *
      clear hw2 hw3 i1 i2 hl h2 h4 h12
      go_enter Tryd.func86, Tryd.ntmps86
      go_wp2_with fail
      go_ret
      exact ⟨ret_bool HE.out.symm, HB.out _⟩
    case pos =>
      have HE := Lib.hid (maB_all hl h12)
      have h13 : (ns.length : Int) ≤ 12 := by omega
      have HW2 := Lib.hid (fun X => hw2 _ (HB.out X))
      have HW3 := Lib.hid (fun X => hw3 _ (HB.out X))
      generalize inAll ns 1 100000 = b1 at HE HW2
      generalize inAll ds 1 100000 = b2 at HE HW3
      rw [← hl] at HW3 ⊢
      generalize ns.length = K1 at *
      clear hw2 hw3 i1 i2 hl h2 h4 h12 h1
      cases b1
      case false =>
        clear HW3
        go_enter Tryd.func86, Tryd.ntmps86
        go_wp2_with fail
        refine (HW2.out _).mono ?_
        rintro e w2 ⟨rfl, rfl⟩
        go_wp2_with fail
        go_ret
        exact ⟨ret_bool (by rw [HE.out]; rfl), HB.out _⟩
      case true =>
        cases b2
        all_goals
          go_enter Tryd.func86, Tryd.ntmps86
          go_wp2_with fail
          refine (HW2.out _).mono ?_
          rintro e w2 ⟨rfl, rfl⟩
          go_wp2_with fail
          refine (HW3.out _).mono ?_
          rintro e w2 ⟨rfl, rfl⟩
          go_wp2_with fail
          go_ret
          exact ⟨ret_bool (by rw [HE.out]; rfl), HB.out _⟩
end Go.Proofs.YtgobjobppajkbaaDoor
