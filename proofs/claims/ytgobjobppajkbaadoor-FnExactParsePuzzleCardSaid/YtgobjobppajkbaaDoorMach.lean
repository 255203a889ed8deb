/-
  MACHINES: their lists read; 'maGood' of the model, 'IsMachine' of the program; what the laws do to a machine.
  'markIntS', 'heldIntS' of the laws from whatever number on; rows that lie in a stretch of blocks.
  FROM WHAT THE STATEMENT SAYS OF A LIST TO 'ArgI'.
-/
import Derived.Test.YtgobjobppajkbaaDoorCpF
import Derived.Test.YtgobjobppajkbaaDoorMaM
import Derived.Deep.RegionWith
import Derived.Test.YtgobjobppajkbaaDoorLists
import Derived.ChangeSlices
import Derived.ChangeOld
import Derived.Carry
import Derived.ProofKit
namespace Go.Proofs.YtgobjobppajkbaaDoor
open Go.RowKit
set_option linter.unusedVariables false

theorem IntsIn.rd {w : World} {v : Value} {xs : List Int} (h : IntsIn w v xs) : ∃ a cap, v = .slice a xs.length cap ∧ ∀ j, j < xs.length → ∃ g, a = some ⟨g, 0, none⟩ ∧ g < w.heap.size ∧ w.cell? ⟨g, j, none⟩ = some (.int .i64 (xs.getD j 0)) := by
  obtain ⟨a, cap, rfl, hx⟩ := h
  refine ⟨a, cap, rfl, fun j hj => ?_⟩
  obtain ⟨g, rfl, hg, hr⟩ := hx (by rintro rfl; simp at hj)
  exact ⟨g, rfl, hg, (hr j hj).1⟩
theorem inAll_nil (lo hi : Int) : inAll [] lo hi = true := rfl
theorem inAll_step {xs : List Int} {lo hi : Int} {j : Nat} (hj : j < xs.length) (h : inAll (xs.take j) lo hi = true) (hx : inB (xs.getD j 0) lo hi = true) : inAll (xs.take (j + 1)) lo hi = true := by
  unfold inAll at *
  rw [List.take_add_one, List.all_append, h, List.getElem?_eq_getElem hj]
  rw [List.getD_eq_getElem?_getD, List.getElem?_eq_getElem hj] at hx
  simpa [inB] using hx
theorem inAll_bad {xs : List Int} {lo hi : Int} {j : Nat} (hj : j < xs.length) (hx : inB (xs.getD j 0) lo hi = false) : inAll xs lo hi = false := by
  rw [List.getD_eq_getElem?_getD, List.getElem?_eq_getElem hj] at hx
  unfold inAll
  rw [List.all_eq_false]
  exact ⟨_, List.getElem_mem hj, by simpa [inB] using hx⟩

set_option maxHeartbeats 1000000 in
theorem l1All_any (xs : List Int) (v : Value) (lo hi : Int) (w : World) (hl : xs.length ≤ 1048576) (h : IntsIn w v xs) :
    Calls Tryd.prog 113 #[v, .int .i64 lo, .int .i64 hi] w fun e w' => e = .returned (.bool (inAll xs lo hi)) ∧ w = w' := by
  obtain ⟨a, cap, rfl, hx⟩ := h.rd
  obtain ⟨K, hK⟩ : ∃ K, xs.length = K := ⟨_, rfl⟩
  have HST := Lib.hid (fun j (hj : j < K) => inAll_step (xs := xs) (lo := lo) (hi := hi) (j := j) (by omega))
  have HBD := Lib.hid (fun j (hj : j < K) => inAll_bad (xs := xs) (lo := lo) (hi := hi) (j := j) (by omega))
  have HF : Hid (xs.take K = xs) := Lib.hid (by rw [← hK]; exact List.take_length)
  rw [hK] at hx hl ⊢
  have HX := Lib.hid hx
  have hK2 : (K : Int) ≤ 1048576 := by omega
  clear hx hK hl h
  go_enter Tryd.func113, Tryd.ntmps113
  go_wp2_with fail
  go_loop [11] (fun i => ∃ j : Nat, j ≤ K ∧ i = .int .i64 j ∧ inAll (xs.take j) lo hi = true) (fun i => K - (RowKit.intOf i).toNat)
  case atStart => exact ⟨0, Nat.zero_le _, rfl, by simp [inAll]⟩
  case round =>
    obtain ⟨j, hj, rfl, hall⟩ := hrel
    have HALL := Lib.hid hall
    clear hall
    by_cases hlt : j < K
    · obtain ⟨g, rfl, hg, q⟩ := HX.out j hlt
      have HS := Lib.hid (HST.out j hlt)
      have HB := Lib.hid (HBD.out j hlt)
      obtain ⟨x, hx⟩ : ∃ x, xs.getD j 0 = x := ⟨_, rfl⟩
      rw [hx] at q HS
      rw [hx] at HB
      have hlt2 : (j : Int) < (K : Int) := by omega
      have HC := Lib.hid (fun w => l1In_any x lo hi w)
      clear hx
      cases hb : inB x lo hi with
      | true =>
        rw [hb] at HC HS
        clear HB hb
        go_wp2_with (go_at_call 72; refine (HC.out _).mono ?_; rintro e w1 ⟨rfl, rfl⟩)
        exact ⟨⟨j + 1, hlt, by go_num, HS.out HALL.out (by simp)⟩, by simp [RowKit.intOf]; omega⟩
      | false =>
        rw [hb] at HC HB
        clear HS hb
        go_wp2_with (go_at_call 72; refine (HC.out _).mono ?_; rintro e w1 ⟨rfl, rfl⟩)
        go_ret
        exact ⟨ret_bool (HB.out (by simp)).symm, rfl⟩
    · obtain rfl : j = K := by omega
      have hlt2 : ¬ ((j : Int) < (j : Int)) := by omega
      go_wp2_with fail
      go_ret
      exact ⟨ret_bool (by rw [← HALL.out, HF.out]), rfl⟩

set_option maxHeartbeats 1000000 in
theorem areParts_any (xs : List Int) (v : Value) (w : World) (hl : xs.length ≤ 1048576) (h : IntsIn w v xs) :
    Calls Tryd.prog 117 #[v] w fun e w' => e = .returned (.bool (inAll xs 1 100000)) ∧ w = w' := by
  obtain ⟨a, cap, rfl, hx⟩ := h.rd
  obtain ⟨K, hK⟩ : ∃ K, xs.length = K := ⟨_, rfl⟩
  have HST := Lib.hid (fun j (hj : j < K) => inAll_step (xs := xs) (lo := 1) (hi := 100000) (j := j) (by omega))
  have HBD := Lib.hid (fun j (hj : j < K) => inAll_bad (xs := xs) (lo := 1) (hi := 100000) (j := j) (by omega))
  have HF : Hid (xs.take K = xs) := Lib.hid (by rw [← hK]; exact List.take_length)
  rw [hK] at hx hl ⊢
  have HX := Lib.hid hx
  have hK2 : (K : Int) ≤ 1048576 := by omega
  clear hx hK hl h
  go_enter Tryd.func117, Tryd.ntmps117
  go_wp2_with fail
  go_loop [7] (fun i => ∃ j : Nat, j ≤ K ∧ i = .int .i64 j ∧ inAll (xs.take j) 1 100000 = true) (fun i => K - (RowKit.intOf i).toNat)
  case atStart => exact ⟨0, Nat.zero_le _, rfl, by simp [inAll]⟩
  case round =>
    obtain ⟨j, hj, rfl, hall⟩ := hrel
    have HALL := Lib.hid hall
    clear hall
    by_cases hlt : j < K
    · obtain ⟨g, rfl, hg, q⟩ := HX.out j hlt
      have HS := Lib.hid (HST.out j hlt)
      have HB := Lib.hid (HBD.out j hlt)
      obtain ⟨x, hx⟩ : ∃ x, xs.getD j 0 = x := ⟨_, rfl⟩
      rw [hx] at q HS
      rw [hx] at HB
      have hlt2 : (j : Int) < (K : Int) := by omega
      clear hx
      by_cases h1 : x < 1
      · go_wp2_with fail
        go_ret
        exact ⟨ret_bool (HB.out (by simp [inB]; omega)).symm, rfl⟩
      · by_cases h2 : 100000 < x
        · go_wp2_with fail
          go_ret
          exact ⟨ret_bool (HB.out (by simp [inB]; omega)).symm, rfl⟩
        · go_wp2_with fail
          exact ⟨⟨j + 1, hlt, by go_num, HS.out HALL.out (by simp [inB]; omega)⟩, by simp [RowKit.intOf]; omega⟩
    · obtain rfl : j = K := by omega
      have hlt2 : ¬ ((j : Int) < (j : Int)) := by omega
      go_wp2_with fail
      go_ret
      exact ⟨ret_bool (by rw [← HALL.out, HF.out]), rfl⟩

/-- A machine that can be read. -/
def MacIn (w : World) (v : Value) (ns ds : List Int) : Prop := ∃ v1 v2, v = .agg #[v1, v2] ∧ IntsIn w v1 ns ∧ IntsIn w v2 ds
theorem MacIn.kept {w w' : World} {v : Value} {ns ds : List Int} (h : MacIn w v ns ds) (hb : Below w.heap.size w w') : MacIn w' v ns ds := by
  obtain ⟨v1, v2, rfl, h1, h2⟩ := h
  exact ⟨v1, v2, rfl, h1.kept hb, h2.kept hb⟩
theorem IntsIn.form {w : World} {v : Value} {xs : List Int} (h : IntsIn w v xs) : ∃ a cap, v = .slice a xs.length cap := by
  obtain ⟨a, cap, rfl, _⟩ := h
  exact ⟨a, cap, rfl⟩
theorem maB_len {ns ds : List Int} (h : ns.length ≠ ds.length) : maB ns ds = false := by simp [maB, h]
theorem maB_12 {ns ds : List Int} (h : 12 < ns.length) : maB ns ds = false := by simp [maB]; intro _ h2; omega
theorem maB_all {ns ds : List Int} (h : ns.length = ds.length) (h2 : ns.length ≤ 12) : maB ns ds = (inAll ns 1 100000 && inAll ds 1 100000) := by
  have e1 : decide (ns.length = ds.length) = true := by simpa using h
  have e2 : decide (ns.length ≤ 12) = true := by simpa using h2
  rw [maB, e1, e2]; rfl

set_option maxHeartbeats 2000000 in
theorem maGood_any (ns ds : List Int) (v : Value) (w : World) (h1 : ns.length ≤ 1048576) (h2 : ds.length ≤ 1048576) (h : MacIn w v ns ds) :
    Calls Tryd.prog 82 #[v] w fun e w' => e = .returned (.bool (maB ns ds)) ∧ Below w.heap.size w w' := by
  obtain ⟨v1, v2, rfl, i1, i2⟩ := h
  have hw2 : ∀ (W : World), Below w.heap.size w W → Calls Tryd.prog 113 #[v1, .int .i64 1, .int .i64 100000] W fun e w' => e = .returned (.bool (inAll ns 1 100000)) ∧ W = w' := fun W hb => l1All_any ns v1 1 100000 W h1 (i1.kept hb)
  have hw3 : ∀ (W : World), Below w.heap.size w W → Calls Tryd.prog 113 #[v2, .int .i64 1, .int .i64 100000] W fun e w' => e = .returned (.bool (inAll ds 1 100000)) ∧ W = w' := fun W hb => l1All_any ds v2 1 100000 W h2 (i2.kept hb)
  have HB := Lib.hid (fun X => (Below.refl w.heap.size w).alloc (Nat.le_refl _) X)
  obtain ⟨a1, c1, rfl⟩ := i1.form
  obtain ⟨a2, c2, rfl⟩ := i2.form
  have h3 : (ns.length : Int) ≤ 1048576 := by omega
  have h4 : (ds.length : Int) ≤ 1048576 := by omega
  by_cases hl : ns.length = ds.length
  case neg =>
    have HE := Lib.hid (maB_len hl)
    have hl2 : ¬ (ns.length : Int) = (ds.length : Int) := by omega
    generalize ns.length = K1 at *
    generalize ds.length = K2 at *
    clear hw2 hw3 i1 i2 hl
    go_enter Tryd.func82, Tryd.ntmps82
    go_wp2_with fail
    go_ret
    exact ⟨ret_bool HE.out.symm, HB.out _⟩
  case pos =>
    by_cases h12 : ns.length ≤ 12
    case neg =>
      have HE := Lib.hid (maB_12 (ds := ds) (show 12 < ns.length by omega))
      have h13 : ¬ (ns.length : Int) ≤ 12 := by omega
      rw [← hl] at hw3 ⊢
      generalize ns.length = K1 at *
      clear hw2 hw3 i1 i2 hl h2 h4 h12
      go_enter Tryd.func82, Tryd.ntmps82
      go_wp2_with fail
      go_ret
      exact ⟨ret_bool HE.out.symm, HB.out _⟩
    case pos =>
      have HE := Lib.hid (maB_all hl h12)
      have h13 : (ns.length : Int) ≤ 12 := by omega
      have HW2 := Lib.hid (fun X => hw2 _ (HB.out X))
      have HW3 := Lib.hid (fun X => hw3 _ (HB.out X))
      generalize inAll ns 1 100000 = b1 at HE HW2
      generalize inAll ds 1 100000 = b2 at HE HW3
      rw [← hl] at HW3 ⊢
      generalize ns.length = K1 at *
      clear hw2 hw3 i1 i2 hl h2 h4 h12 h1
      cases b1
      case false =>
        clear HW3
        go_enter Tryd.func82, Tryd.ntmps82
        go_wp2_with fail
        refine (HW2.out _).mono ?_
        rintro e w2 ⟨rfl, rfl⟩
        go_wp2_with fail
        go_ret
        exact ⟨ret_bool (by rw [HE.out]; rfl), HB.out _⟩
      case true =>
        cases b2
        all_goals
          go_enter Tryd.func82, Tryd.ntmps82
          go_wp2_with fail
          refine (HW2.out _).mono ?_
          rintro e w2 ⟨rfl, rfl⟩
          go_wp2_with fail
          refine (HW3.out _).mono ?_
          rintro e w2 ⟨rfl, rfl⟩
          go_wp2_with fail
          go_ret
          exact ⟨ret_bool (by rw [HE.out]; rfl), HB.out _⟩

set_option maxHeartbeats 2000000 in
theorem isMachine_any (ns ds : List Int) (v : Value) (w : World) (h1 : ns.length ≤ 1048576) (h2 : ds.length ≤ 1048576) (h : MacIn w v ns ds) :
    Calls Tryd.prog 86 #[v] w fun e w' => e = .returned (.bool (maB ns ds)) ∧ Below w.heap.size w w' := by
  obtain ⟨v1, v2, rfl, i1, i2⟩ := h
  have hw2 : ∀ (W : World), Below w.heap.size w W → Calls Tryd.prog 117 #[v1] W fun e w' => e = .returned (.bool (inAll ns 1 100000)) ∧ W = w' := fun W hb => areParts_any ns v1 W h1 (i1.kept hb)
  have hw3 : ∀ (W : World), Below w.heap.size w W → Calls Tryd.prog 117 #[v2] W fun e w' => e = .returned (.bool (inAll ds 1 100000)) ∧ W = w' := fun W hb => areParts_any ds v2 W h2 (i2.kept hb)
  have HB := Lib.hid (fun X => (Below.refl w.heap.size w).alloc (Nat.le_refl _) X)
  obtain ⟨a1, c1, rfl⟩ := i1.form
  obtain ⟨a2, c2, rfl⟩ := i2.form
  have h3 : (ns.length : Int) ≤ 1048576 := by omega
  have h4 : (ds.length : Int) ≤ 1048576 := by omega
  by_cases hl : ns.length = ds.length
  case neg =>
    have HE := Lib.hid (maB_len hl)
    have hl2 : ¬ (ns.length : Int) = (ds.length : Int) := by omega
    generalize ns.length = K1 at *
    generalize ds.length = K2 at *
    clear hw2 hw3 i1 i2 hl
    go_enter Tryd.func86, Tryd.ntmps86
    go_wp2_with fail
    go_ret
    exact ⟨ret_bool HE.out.symm, HB.out _⟩
  case pos =>
    by_cases h12 : ns.length ≤ 12
    case neg =>
      have HE := Lib.hid (maB_12 (ds := ds) (show 12 < ns.length by omega))
      have h13 : ¬ (ns.length : Int) ≤ 12 := by omega
      rw [← hl] at hw3 ⊢
      generalize ns.length = K1 at *
      clear hw2 hw3 i1 i2 hl h2 h4 h12
      go_enter Tryd.func86, Tryd.ntmps86
      go_wp2_with fail
      go_ret
      exact ⟨ret_bool HE.out.symm, HB.out _⟩
    case pos =>
      have HE := Lib.hid (maB_all hl h12)
      have h13 : (ns.length : Int) ≤ 12 := by omega
      have HW2 := Lib.hid (fun X => hw2 _ (HB.out X))
      have HW3 := Lib.hid (fun X => hw3 _ (HB.out X))
      generalize inAll ns 1 100000 = b1 at HE HW2
      generalize inAll ds 1 100000 = b2 at HE HW3
      rw [← hl] at HW3 ⊢
      generalize ns.length = K1 at *
      clear hw2 hw3 i1 i2 hl h2 h4 h12 h1
      cases b1
      case false =>
        clear HW3
        go_enter Tryd.func86, Tryd.ntmps86
        go_wp2_with fail
        refine (HW2.out _).mono ?_
        rintro e w2 ⟨rfl, rfl⟩
        go_wp2_with fail
        go_ret
        exact ⟨ret_bool (by rw [HE.out]; rfl), HB.out _⟩
      case true =>
        cases b2
        all_goals
          go_enter Tryd.func86, Tryd.ntmps86
          go_wp2_with fail
          refine (HW2.out _).mono ?_
          rintro e w2 ⟨rfl, rfl⟩
          go_wp2_with fail
          refine (HW3.out _).mono ?_
          rintro e w2 ⟨rfl, rfl⟩
          go_wp2_with fail
          go_ret
          exact ⟨ret_bool (by rw [HE.out]; rfl), HB.out _⟩
end Go.Proofs.YtgobjobppajkbaaDoor

namespace Go.Proofs.YtgobjobppajkbaaDoor
open Go.RowKit
set_option linter.unusedVariables false

/-- The numbers k, k + 1, .. in a row. -/
def markK (k : Int) (L : Nat) : List Int := (List.range L).map fun (i : Nat) => k + (i : Int)
theorem markK_length (k : Int) (L : Nat) : (markK k L).length = L := by simp [markK]
theorem markK_at {k : Int} {L j : Nat} (h : j < L) : (markK k L).getD j 0 = k + (j : Int) := by
  simp [markK, List.getD_eq_getElem?_getD, h]
/-- A slice of integers that lies in a block from lo on, below hi, if it is not empty. -/
def RowIn (w : World) (lo hi : Nat) (a : Option Addr) (xs : List Int) : Prop := xs ≠ [] → ∃ g, a = some ⟨g, 0, none⟩ ∧ lo ≤ g ∧ g < hi ∧ IntRow w g xs
theorem IntRow.of {w w' : World} {g : Nat} {xs : List Int} (h : IntRow w g xs) (he : w'.heap[g]? = w.heap[g]?) : IntRow w' g xs :=
  fun j hj => ⟨(World.cell?_of_block (a := ⟨g, j, none⟩) he).trans (h j hj).1, (World.frozen?_of_block (a := ⟨g, j, none⟩) he).trans (h j hj).2⟩
theorem RowIn.of {w w' : World} {lo hi : Nat} {a : Option Addr} {xs : List Int} (h : RowIn w lo hi a xs) (he : ∀ g, lo ≤ g → g < hi → w'.heap[g]? = w.heap[g]?) : RowIn w' lo hi a xs := by
  intro hn
  obtain ⟨g, rfl, h1, h2, h3⟩ := h hn
  exact ⟨g, rfl, h1, h2, h3.of (he g h1 h2)⟩
theorem RowIn.wide {w : World} {lo hi lo' hi' : Nat} {a : Option Addr} {xs : List Int} (h : RowIn w lo hi a xs) (h1 : lo' ≤ lo) (h2 : hi ≤ hi') : RowIn w lo' hi' a xs := by
  intro hn
  obtain ⟨g, rfl, a1, a2, a3⟩ := h hn
  exact ⟨g, rfl, by omega, by omega, a3⟩
theorem RowIn.isIn {w : World} {lo hi : Nat} {a : Option Addr} {cap : Nat} {xs : List Int} (h : RowIn w lo hi a xs) (hh : hi ≤ w.heap.size) : IntsIn w (.slice a xs.length cap) xs :=
  ⟨a, cap, rfl, fun hn => by obtain ⟨g, rfl, a1, a2, a3⟩ := h hn; exact ⟨g, rfl, by omega, a3⟩⟩
theorem IntsAt.rowIn {w : World} {B : Nat} {v : Value} {xs : List Int} (h : IntsAt w B v xs) : ∃ a cap, v = .slice a xs.length cap ∧ RowIn w B w.heap.size a xs := by
  rcases h.cases with ⟨rfl, rfl⟩ | ⟨g, cap, rfl, h1, h2, _, h3⟩
  · exact ⟨none, 0, rfl, fun hn => (hn rfl).elim⟩
  · exact ⟨_, cap, rfl, fun _ => ⟨g, rfl, h1, h2, h3⟩⟩

set_option maxRecDepth 100000 in
set_option maxHeartbeats 1000000 in
theorem markIntS_k (xs : List Int) (kk : Int) (lo hi : Nat) (a : Option Addr) (cap : Nat) (w : World) (h0 : 0 ≤ kk) (h1 : kk ≤ 4000000) (hh : hi ≤ w.heap.size) (hl : xs.length ≤ 1048576) (hx : RowIn w lo hi a xs) :
    Calls Tryd.prog 43 #[.slice a xs.length cap, .int .i64 kk] w fun e w' => e = .returned (.int .i64 (kk + (xs.length : Int))) ∧ Touch lo hi w w' ∧ (∀ b, (0 < xs.length → ∀ g, a = some ⟨g, 0, none⟩ → b ≠ g) → w'.heap[b]? = w.heap[b]?) ∧ RowIn w' lo hi a (markK kk xs.length) := by
  obtain ⟨L, hL⟩ : ∃ L, L = xs.length := ⟨_, rfl⟩
  rw [← hL] at hl ⊢
  have HL := Lib.hid hL
  have hl2 : (L : Int) ≤ 1048576 := by omega
  have H : Hid (0 < L → ∃ g, a = some ⟨g, 0, none⟩ ∧ lo ≤ g ∧ g < hi ∧ ∀ j, j < L → w.cell? ⟨g, j, none⟩ = some (.int .i64 (xs.getD j 0)) ∧ w.frozen? ⟨g, j, none⟩ = false) := Lib.hid (fun hp => by
    obtain ⟨g, e, a1, a2, a3⟩ := hx (by intro e; rw [e] at hL; simp at hL; omega)
    exact ⟨g, e, a1, a2, fun j hj => a3 j (by rw [← hL]; exact hj)⟩)
  clear hL hl hx
  go_enter Tryd.func43, Tryd.ntmps43
  go_wp2_with fail
  go_loopw [1, 5] (fun m i wr => ∃ k : Nat, k ≤ L ∧ i = .int .i64 k ∧ m = .int .i64 (kk + (k : Int)) ∧ Touch lo hi w wr ∧ (∀ b, (0 < L → ∀ g, a = some ⟨g, 0, none⟩ → b ≠ g) → wr.heap[b]? = w.heap[b]?) ∧ (0 < L → ∃ g, a = some ⟨g, 0, none⟩ ∧ lo ≤ g ∧ g < hi ∧ (∀ j, j < k → wr.cell? ⟨g, j, none⟩ = some (.int .i64 (kk + (j : Int)))) ∧ (∀ j, k ≤ j → j < L → wr.cell? ⟨g, j, none⟩ = some (.int .i64 (xs.getD j 0))) ∧ (∀ j, j < L → wr.frozen? ⟨g, j, none⟩ = false))) (fun _ i _ => L - (intOf i).toNat)
  case atStart =>
    refine ⟨0, Nat.zero_le _, rfl, by simp, Touch.refl _ _ _, fun _ _ => rfl, fun hp => ?_⟩
    obtain ⟨g, e, a1, a2, a3⟩ := H.out hp
    exact ⟨g, e, a1, a2, by simp, fun j _ hj => (a3 j hj).1, fun j hj => (a3 j hj).2⟩
  case round =>
    obtain ⟨k, hk, rfl, rfl, hb, hot, hh3⟩ := hrel
    have HOT := Lib.hid hot
    clear hot
    by_cases hlt : k < L
    · obtain ⟨g, rfl, g1, g2, h1', h2, h3⟩ := hh3 (by omega)
      have q := h2 k (Nat.le_refl k) hlt
      have qf := h3 k hlt
      have H1 := Lib.hid h1'
      have H2 := Lib.hid h2
      have H3 := Lib.hid h3
      have HG := Lib.hid (And.intro g1 g2)
      have hlt2 : (k : Int) < (L : Int) := by omega
      clear h1' h2 h3 hh3
      go_wp2
      refine ⟨⟨k + 1, hlt, by go_num, by go_num, hb.setCell (p := ⟨g, k, none⟩) HG.out.1 HG.out.2 _, ?_, fun _ => ⟨g, rfl, HG.out.1, HG.out.2, ?_, ?_, ?_⟩⟩, by simp [intOf]; omega⟩
      · intro b hb
        exact (Below.heap_setCell _ _ _ _ (hb (by omega) g rfl)).trans (HOT.out b hb)
      · intro j hj
        by_cases e : j = k
        · subst e; exact World.cell?_setCell_same' _ _ _ (by rw [q]; rfl)
        · exact (World.cell?_setCell_other _ _ _ _ (by simp; try omega)).trans (H1.out j (by omega))
      · intro j hj hj2
        exact (World.cell?_setCell_other _ _ _ _ (by simp; try omega)).trans (H2.out j (by omega) hj2)
      · intro j hj
        rw [World.frozen?_setCell]
        exact H3.out j hj
    · obtain rfl : k = L := by omega
      have hrow : RowIn wr lo hi a (markK kk k) := by
        intro hn
        have hk0 : 0 < k := by
          rcases Nat.eq_zero_or_pos k with e | e
          · subst e; exact (hn rfl).elim
          · exact e
        obtain ⟨g, e, g1, g2, a1, _, a3⟩ := hh3 hk0
        refine ⟨g, e, g1, g2, fun j hj => ?_⟩
        rw [markK_length] at hj
        rw [markK_at hj]
        exact ⟨a1 j hj, a3 j hj⟩
      have HROW := Lib.hid hrow
      have hlt2 : ¬ ((k : Int) < (k : Int)) := by omega
      clear hh3 hrow
      go_wp2
      go_ret
      exact ⟨rfl, hb, HOT.out, HROW.out⟩

set_option maxRecDepth 100000 in
set_option maxHeartbeats 1000000 in
theorem heldIntS_k (L : Nat) (kk : Int) (lo hi : Nat) (a : Option Addr) (cap : Nat) (w : World) (h0 : 0 ≤ kk) (h1 : kk ≤ 4000000) (hh : hi ≤ w.heap.size) (hl : L ≤ 1048576) (hx : RowIn w lo hi a (markK kk L)) :
    Calls Tryd.prog 44 #[.slice a L cap, .int .i64 kk] w fun e w' => e = .returned (.int .i64 (kk + (L : Int))) ∧ w = w' := by
  have hl2 : (L : Int) ≤ 1048576 := by omega
  have H : Hid (0 < L → ∃ g, a = some ⟨g, 0, none⟩ ∧ ∀ j, j < L → w.cell? ⟨g, j, none⟩ = some (.int .i64 (kk + (j : Int)))) := Lib.hid (fun hp => by
    obtain ⟨g, e, a1, a2, a3⟩ := hx (by intro e; have := markK_length kk L; rw [e] at this; simp at this; omega)
    exact ⟨g, e, fun j hj => by rw [(a3 j (by rw [markK_length]; exact hj)).1, markK_at hj]⟩)
  clear hl hx
  go_enter Tryd.func44, Tryd.ntmps44
  go_wp2_with fail
  go_loop [1, 5] (fun m i => ∃ k : Nat, k ≤ L ∧ i = .int .i64 k ∧ m = .int .i64 (kk + (k : Int))) (fun _ i => L - (intOf i).toNat)
  case atStart => exact ⟨0, Nat.zero_le _, rfl, by simp⟩
  case round =>
    obtain ⟨k, hk, rfl, rfl⟩ := hrel
    by_cases hlt : k < L
    · obtain ⟨g, rfl, q0⟩ := H.out (by omega)
      have q := q0 k hlt
      have hlt2 : (k : Int) < (L : Int) := by omega
      clear q0
      go_wp2
      exact ⟨⟨k + 1, hlt, by go_num, by go_num⟩, by simp [intOf]; omega⟩
    · obtain rfl : k = L := by omega
      have hlt2 : ¬ ((k : Int) < (k : Int)) := by omega
      go_wp2
      go_ret
      exact ⟨rfl, rfl⟩
end Go.Proofs.YtgobjobppajkbaaDoor

namespace Go.Proofs.YtgobjobppajkbaaDoor
open Go.ChangeShapes Go.WideShapes Go.RowKit
set_option linter.unusedVariables false

theorem cell_heap {w : World} {a : Addr} {v : Value} (h : w.cell? a = some v) : a.block < w.heap.size := by
  unfold World.cell? at h
  split at h
  · rename_i hs
    exact (Array.getElem?_eq_some_iff.1 hs).1
  · cases h
theorem cellsInt : Tryd.prog.cellsOf 3 = 1 := by kernel_rfl
theorem argI_of_trod {H : Type} {enc : TypeId × Value → H} {W : World} {v : Value} {d : DataW H} {p : List MemPlace} (hv : ∃ a len cap, v = .slice a len cap)
    (h : DataW.Trod enc Tryd.prog W 0 (fun _ => true) true 32 v d p) : ∃ xs, ArgI W v xs := by
  obtain ⟨a0, len, cap, rfl⟩ := hv
  obtain ⟨fuel, hf⟩ := h
  rcases open_ints Tryd.underlying32 Tryd.underlying3 cellsInt hf with ⟨hcs, hx⟩ | ⟨a, len', cap', zs, hcs, _, hl, hm, hz, hx, hcell, hwz⟩
  · simp [Value.cells] at hcs
    obtain ⟨rfl, rfl, rfl⟩ := hcs
    exact ⟨[], none, 0, rfl, fun h => (h rfl).elim⟩
  · simp [Value.cells] at hcs
    obtain ⟨rfl, rfl, rfl⟩ := hcs
    simp only [if_true] at hz
    have hlen : (zs.take len).length = len := by rw [List.length_take]; omega
    refine ⟨zs.take len, some a, cap, by rw [hlen], fun hne => ?_⟩
    have hpos : 0 < len := by
      rcases Nat.eq_zero_or_pos len with h0 | h0
      · subst h0; exact (hne (by simp)).elim
      · exact h0
    obtain ⟨b, off, spot⟩ := a
    have hspot : spot = none := by simpa [Addr.add] using World.cell?_spot (hcell 0 (by omega))
    subst hspot
    refine ⟨b, off, rfl, ?_, fun j hj => ?_⟩
    · have := cell_heap (hcell 0 (by omega))
      rwa [add_plain] at this
    · rw [hlen] at hj
      have := hcell j (by omega)
      rw [add_plain] at this
      rw [this, List.getD, List.getD, List.getElem?_take, if_pos hj]
/-- Behind the call the list reads as it read. -/
theorem argBack {H : Type} {enc : TypeId × Value → H} {W W' : World} {v : Value} {d : DataW H} {p : List MemPlace} (hl : laidOutB Tryd.prog = true) (h : DataW.Trod enc Tryd.prog W 0 (fun _ => true) true 32 v d p) (hb : Below W.heap.size W W') :
    DataW.Trod enc Tryd.prog W' 0 (fun b => decide (b < W.heap.size)) true 32 v d p := by
  refine Below.trod hl (by kernel_rfl) (of_decide_eq_true (by kernel_rfl)) h hb ?_
  obtain ⟨fuel, hf⟩ := h
  exact DataW.trod_lt _ _ _ _ hf
end Go.Proofs.YtgobjobppajkbaaDoor
