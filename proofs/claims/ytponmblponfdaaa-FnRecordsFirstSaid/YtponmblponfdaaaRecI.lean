/-
  'recordsOf', 'lastRecord' of the program.
-/
import Derived.Test.YtponmblponfdaaaKeep
import Derived.Test.YtponmblponfdaaaSlices
namespace Go.Proofs.Ytponmblponfdaaa
open Go.RowKit
set_option linter.unusedVariables false

/-- Records that lie somewhere, one behind the other, from a on. -/
def RecsIn (w : World) (a : Option Addr) (rs : List (Int × Int)) : Prop :=
  ∀ k, k < rs.length → ∃ g, a = some ⟨g, 0, none⟩ ∧ g < w.heap.size ∧ w.cell? ⟨g, k * 2, none⟩ = some (.int .i64 (rs.getD k (0, 0)).1) ∧ w.cell? ⟨g, k * 2 + 1, none⟩ = some (.int .i64 (rs.getD k (0, 0)).2)
theorem RecsIn.kept {w w' : World} {a : Option Addr} {rs : List (Int × Int)} (h : RecsIn w a rs) (hb : Below w.heap.size w w') : RecsIn w' a rs := by
  intro k hk
  obtain ⟨g, e, hg, h1, h2⟩ := h k hk
  exact ⟨g, e, Nat.lt_of_lt_of_le hg hb.size, (hb.cell (p := ⟨g, _, none⟩) hg).trans h1, (hb.cell (p := ⟨g, _, none⟩) hg).trans h2⟩
/-- The numbers of a list as a function of the place. -/
def atL (xs : List Int) : Nat → Int := fun j => xs.getD j 0
/-- What a function that makes records hands back. -/
def RetRecs (rs : List (Int × Int)) (w : World) (e : Ending) (w' : World) : Prop :=
  ∃ a, e = .returned (.slice a rs.length rs.length) ∧ RecsIn w' a rs ∧ Below w.heap.size w w'

theorem IntsIn.at' {w : World} {v : Value} {xs : List Int} (h : IntsIn w v xs) : ∃ a cap, v = .slice a xs.length cap ∧ ∀ m, m < xs.length → ∃ g, a = some ⟨g, 0, none⟩ ∧ g < w.heap.size ∧ w.cell? ⟨g, m, none⟩ = some (.int .i64 (atL xs m)) := by
  obtain ⟨a, cap, rfl, hx⟩ := h
  refine ⟨a, cap, rfl, fun m hm => ?_⟩
  obtain ⟨g, rfl, hg, hr⟩ := hx (by intro e; rw [e] at hm; simp at hm)
  exact ⟨g, rfl, hg, (hr m hm).1⟩

set_option maxRecDepth 100000 in
set_option maxHeartbeats 4000000 in
theorem recordsOf_any (xs : List Int) (v : Value) (w : World) (hl : xs.length ≤ 300) (hm : ∀ j, j < xs.length → -1 ≤ atL xs j ∧ atL xs j ≤ 1000000000000) (h : IntsIn w v xs) :
    Calls Try.prog 37 #[v] w (RetRecs (recK (atL xs) xs.length) w) := by
  obtain ⟨a, cap, rfl, hx⟩ := h.at'
  obtain ⟨f, hf⟩ : ∃ f, atL xs = f := ⟨_, rfl⟩
  obtain ⟨K, hK⟩ : ∃ K, xs.length = K := ⟨_, rfl⟩
  rw [hf, hK] at hm hx ⊢
  rw [hK] at hl
  have hK2 : (K : Int) ≤ 300 := by omega
  have HX := Lib.hid hx
  have HM := Lib.hid hm
  have hef : ∀ (args : Array Value) (w : World), (callFunc 65 args).run Try.prog w = .ok (.enter 65 args) w := enters_of Try.func65 (by kernel_rfl) rfl
  clear hx hm hl hf hK h
  go_enter Try.func37, Try.ntmps37
  go_wp2_with fail
  refine (keeper_any _).mono ?_
  rintro e w1 ⟨rfl, hw1⟩
  have hk1 : KeepAt w1 w.heap.size (.slice none 0 0) [] := by rw [hw1]; exact keepAt_new w
  have hb1 : Below w.heap.size w w1 := by rw [hw1]; exact ((Below.refl _ w).alloc (Nat.le_refl _) _).alloc (by simp) _
  have HK1 := Lib.hid hk1
  have HB1 := Lib.hid hb1
  clear hk1 hb1 hw1
  go_wp2_with fail
  go_loopw [9] (fun i wr => ∃ j : Nat, j ≤ K ∧ i = .int .i64 j ∧ (∃ v, KeepAt wr w.heap.size v (recK f j)) ∧ Below w.heap.size w wr) (fun i _ => K - (RowKit.intOf i).toNat)
  case atStart => exact ⟨0, Nat.zero_le _, rfl, ⟨_, HK1.out⟩, HB1.out⟩
  case round =>
    obtain ⟨j, hj, rfl, ⟨v, hkeep⟩, hbel⟩ := hrel
    have HKEEP := Lib.hid hkeep
    have HB := Lib.hid hbel
    have hsz := hkeep.sz
    clear hkeep hbel
    by_cases hlt : j < K
    · obtain ⟨g, rfl, hg, q0⟩ := HX.out j hlt
      have q : wr.cell? ⟨g, j, none⟩ = some (.int .i64 (f j)) := (HB.out.cell (p := ⟨g, j, none⟩) hg).trans q0
      have hlt2 : (j : Int) < (K : Int) := by omega
      have hok := recK_ok (a := f) (k := j) (fun m hm => (HM.out m (by omega)).1)
      have hlen := recK_len f j
      have hmj := HM.out j hlt
      have HOK := Lib.hid hok
      have HLEN : Hid ((recK f j).length ≤ 1000) := Lib.hid (by omega)
      have HNONE := Lib.hid (fun (h : f j = -1) => recK_none h)
      have HHAS := Lib.hid (fun (h : f j ≠ -1) => recK_has h)
      obtain ⟨x, hx⟩ : ∃ x, f j = x := ⟨_, rfl⟩
      rw [hx] at q hmj HNONE HHAS
      clear hok hlen hx q0
      by_cases hx1 : x = -1
      · have HN := Lib.hid (HNONE.out hx1)
        have hx2 : (x != -1) = false := by simpa using hx1
        clear hx1 HNONE HHAS
        go_wp2_with fail
        exact ⟨⟨j + 1, hlt, by go_num, ⟨v, by rw [HN.out]; exact HKEEP.out⟩, HB.out⟩, by simp [RowKit.intOf]; omega⟩
      · have HN := Lib.hid (HHAS.out hx1)
        have hx2 : (x != -1) = true := by simpa using hx1
        clear hx1 HNONE HHAS
        go_wp2_with fail
        refine (keep_one w.heap.size wr.heap.size 1 v (recK f j) ((j : Int) + 1, x) _ (HKEEP.out.below ((Below.refl _ wr).alloc (Nat.le_refl _) _)) HOK.out (by dsimp only; omega) HLEN.out (by go_simp) (by go_simp) (by simp)).mono ?_
        rintro e w3 ⟨⟨v0, rfl⟩, hb3, v', hk3⟩
        have HK3 := Lib.hid hk3
        have HB3 := Lib.hid ((HB.out.alloc (by omega) _).trans hb3)
        clear hk3 hb3
        go_wp2_with fail
        exact ⟨⟨j + 1, hlt, by go_num, ⟨v', by rw [HN.out]; exact HK3.out⟩, HB3.out⟩, by simp [RowKit.intOf]; omega⟩
    · obtain rfl : j = K := by omega
      have hlt2 : ¬ ((j : Int) < (j : Int)) := by omega
      go_wp2_with fail
      refine (keep_none w.heap.size v (recK f j) _ HKEEP.out).mono ?_
      rintro e w3 ⟨⟨a3, rfl, h3⟩, rfl⟩
      have H3 := Lib.hid h3
      clear h3
      go_wp2_with fail
      go_ret
      exact ⟨a3, rfl, H3.out, HB.out⟩

theorem ret_rec {x : Int × Int} {f : Bool} {a b : Int} {g : Bool} (h : x = (a, b)) (h' : f = g) : Ending.returned (.tuple #[.int .i64 a, .int .i64 b, .bool g]) = .returned (.tuple #[.int .i64 x.1, .int .i64 x.2, .bool f]) := by rw [h, h']
set_option maxHeartbeats 2000000 in
theorem lastRecord_any (rs : List (Int × Int)) (a : Option Addr) (cap : Nat) (w : World) (hl : rs.length ≤ 300) (ho : RecOk rs) (h : RecsIn w a rs) :
    Calls Try.prog 42 #[.slice a rs.length cap] w fun e w' => e = .returned (.tuple #[.int .i64 (lastR rs).1, .int .i64 (lastR rs).2, .bool (anyR rs)]) ∧ Below w.heap.size w w' := by
  have heq := eqRec
  by_cases h0 : rs = []
  · subst h0
    rw [lastR_nil]
    have HB := Lib.hid ((Below.refl _ w).alloc (Nat.le_refl _) (.cells #[.int .i64 0, .int .i64 0] 59))
    clear h ho hl
    go_enter Try.func42, Try.ntmps42
    go_wp2_with fail
    go_quiet (fail)
    go_wp2
    go_ret3
    exact ⟨rfl, by first | exact HB.out | exact below_drewN HB.out _⟩
  · have hpos : 0 < rs.length := Nat.pos_of_ne_zero (fun e => h0 (List.eq_nil_of_length_eq_zero e))
    obtain ⟨n, hn⟩ : ∃ n, rs.length = n + 1 := ⟨rs.length - 1, by omega⟩
    obtain ⟨g, rfl, hg, q0, q1⟩ := h n (by omega)
    have hlast : rs.getD n (0, 0) = lastR rs := by
      rw [lastR, List.getLast?_eq_getElem?, List.getD_eq_getElem?_getD, hn]; rfl
    have hmem := ho.2 _ (lastR_mem h0)
    rw [hlast] at q0 q1
    have HY : Hid (anyR rs = true) := Lib.hid (by unfold anyR; simpa using fun e => h0 (ho.1.1 e))
    obtain ⟨x, hx⟩ : ∃ x, (lastR rs).1 = x := ⟨_, rfl⟩
    obtain ⟨y, hy⟩ : ∃ y, (lastR rs).2 = y := ⟨_, rfl⟩
    rw [hx] at q0 hmem ⊢
    rw [hy] at q1 hmem ⊢
    rw [hn]
    have hn2 : (n : Int) ≤ 299 := by omega
    have hx0 : (x == 0) = false := by simp; omega
    have hx1 : ¬ x = 0 := by omega
    have hne : ¬ (g = w.heap.size) := by omega
    have HB := Lib.hid (((Below.refl _ w).alloc (Nat.le_refl _) (.cells #[.int .i64 0, .int .i64 0] 59)))
    clear h ho hl hlast hpos hn h0 hx hy hmem
    go_enter Try.func42, Try.ntmps42
    go_wp2_with fail
    go_quiet (fail)
    go_wp2
    go_ret3
    exact ⟨by rw [HY.out]; rfl, by first | exact below_drewN ((Below.refl _ w).alloc (Nat.le_refl _) _) _ | exact below_drewN ((HB.out.setCell (p := ⟨w.heap.size, 0, none⟩) (Nat.le_refl _) _).setCell (p := ⟨w.heap.size, 1, none⟩) (Nat.le_refl _) _) _⟩
end Go.Proofs.Ytponmblponfdaaa
