/-
  THE FIRST FRACTION THAT FITS: 'maFirst' of the model, 'visitOf' of the program; 'FractionFor' of both.
-/
import Derived.Test.YtioagnoodgfnpaaBx
import Derived.Test.YtioagnoodgfnpaaFac
namespace Go.Proofs.Ytioagnoodgfnpaa
open Go.RowKit
set_option linter.unusedVariables false

/-- The first fraction that fits, from number i on, of k that are left; or -1. -/
def frF (ns ds : List Int) (n : Int) : Nat → Nat → Int
  | 0, _ => -1
  | k + 1, i => if (n * ns.getD i 0) % ds.getD i 0 = 0 then i else frF ns ds n k (i + 1)
/-- The first fraction that fits, or -1. -/
def maF (ns ds : List Int) (n : Int) : Int := frF ns ds n ns.length 0
theorem frF_yes {ns ds : List Int} {n : Int} {k i : Nat} (h : (n * ns.getD i 0) % ds.getD i 0 = 0) : frF ns ds n (k + 1) i = i := by rw [frF, if_pos h]
theorem frF_no {ns ds : List Int} {n : Int} {k i : Nat} (h : ¬ (n * ns.getD i 0) % ds.getD i 0 = 0) : frF ns ds n (k + 1) i = frF ns ds n k (i + 1) := by rw [frF, if_neg h]
theorem frF_in (ns ds : List Int) (n : Int) : ∀ (k i : Nat), frF ns ds n k i = -1 ∨ ∃ j : Nat, frF ns ds n k i = j ∧ i ≤ j ∧ j < i + k ∧ (n * ns.getD j 0) % ds.getD j 0 = 0 := by
  intro k
  induction k with
  | zero => intro i; exact .inl rfl
  | succ k ih =>
    intro i
    by_cases h : (n * ns.getD i 0) % ds.getD i 0 = 0
    · exact .inr ⟨i, frF_yes h, Nat.le_refl _, by omega, h⟩
    · rw [frF_no h]
      rcases ih (i + 1) with e | ⟨j, e, h1, h2, h3⟩
      · exact .inl e
      · exact .inr ⟨j, e, by omega, by omega, h3⟩
theorem maF_in (ns ds : List Int) (n : Int) : maF ns ds n = -1 ∨ ∃ j : Nat, maF ns ds n = j ∧ j < ns.length ∧ (n * ns.getD j 0) % ds.getD j 0 = 0 := by
  rcases frF_in ns ds n ns.length 0 with h | ⟨j, h1, _, h3, h4⟩
  · exact .inl h
  · exact .inr ⟨j, h1, by omega, h4⟩
theorem inAll_at {xs : List Int} {lo hi : Int} (h : inAll xs lo hi = true) {j : Nat} (hj : j < xs.length) : lo ≤ xs.getD j 0 ∧ xs.getD j 0 ≤ hi := by
  unfold inAll at h
  rw [List.all_eq_true] at h
  have := h _ (List.getElem_mem hj)
  rw [List.getD_eq_getElem?_getD, List.getElem?_eq_getElem hj]
  simpa using this
theorem maB_parts {ns ds : List Int} (h : maB ns ds = true) : ns.length = ds.length ∧ ns.length ≤ 12 ∧ (∀ j, j < ns.length → 1 ≤ ns.getD j 0 ∧ ns.getD j 0 ≤ 100000) ∧ (∀ j, j < ns.length → 1 ≤ ds.getD j 0 ∧ ds.getD j 0 ≤ 100000) := by
  unfold maB at h
  rw [Bool.and_eq_true, Bool.and_eq_true, Bool.and_eq_true, decide_eq_true_eq, decide_eq_true_eq] at h
  obtain ⟨⟨⟨h1, h2⟩, h3⟩, h4⟩ := h
  exact ⟨h1, h2, fun j hj => inAll_at h3 hj, fun j hj => inAll_at h4 (by omega)⟩
theorem part_mul {n x : Int} (h1 : 1 ≤ n) (h2 : n ≤ 1000000000000) (h3 : 1 ≤ x) (h4 : x ≤ 100000) : 0 ≤ n * x ∧ n * x ≤ 100000000000000000 := by
  constructor
  · exact Int.mul_nonneg (by omega) (by omega)
  · have := Int.mul_le_mul h2 h4 (by omega) (by omega)
    omega

set_option maxHeartbeats 2000000 in
theorem maFirst_any (ns ds : List Int) (n : Int) (v : Value) (w : World) (hg : maB ns ds = true) (hn : manB n = true) (h : MacIn w v ns ds) :
    Calls Try.prog 46 #[v, .int .i64 n] w fun e w' => e = .returned (.int .i64 (maF ns ds n)) ∧ Below w.heap.size w w' := by
  obtain ⟨v1, v2, rfl, i1, i2⟩ := h
  obtain ⟨hl, h12, hns, hds⟩ := maB_parts hg
  have hn2 := manB_iff.1 hn
  have B := Bx.new w v1 v2 28
  replace i1 := i1.kept (below_alloc w (.cells #[v1, v2] 28))
  replace i2 := i2.kept (below_alloc w (.cells #[v1, v2] 28))
  have HB := Lib.hid (below_alloc w (.cells #[v1, v2] 28))
  obtain ⟨a1, c1, rfl, x1⟩ := i1.rd
  obtain ⟨a2, c2, rfl, x2⟩ := i2.rd
  obtain ⟨K, hK⟩ : ∃ K, ns.length = K := ⟨_, rfl⟩
  rw [hK] at hl h12 hns hds x1 x2
  rw [← hl] at x1 x2
  have HR : Hid (frF ns ds n K 0 = maF ns ds n) := Lib.hid (by rw [maF, hK])
  rw [hK] at B HB ⊢
  rw [← hl] at B HB ⊢
  have HX1 := Lib.hid x1
  have HX2 := Lib.hid x2
  have HNS := Lib.hid hns
  have HDS := Lib.hid hds
  have hK2 : (K : Int) ≤ 12 := by omega
  have HBX := Lib.hid B
  obtain ⟨hn1, hnm⟩ := hn2
  generalize maF ns ds n = R at *
  clear hg hn hns hds x1 x2 i1 i2 hl hK
  go_enter Try.func46, Try.ntmps46
  go_wp2_with fail
  generalize w.alloc (.cells #[.slice a1 K c1, .slice a2 K c2] 28) = W at *
  obtain ⟨b0, b1, b2⟩ := B
  go_loop [10] (fun i => ∃ j : Nat, j ≤ K ∧ i = .int .i64 j ∧ frF ns ds n (K - j) j = R) (fun i => K - (RowKit.intOf i).toNat)
  case atStart => exact ⟨0, Nat.zero_le _, rfl, HR.out⟩
  case round =>
    obtain ⟨j, hj, rfl, hf⟩ := hrel
    have HF := Lib.hid hf
    clear hf
    by_cases hlt : j < K
    · obtain ⟨g1, rfl, l1, q1⟩ := HX1.out j hlt
      obtain ⟨g2, rfl, l2, q2⟩ := HX2.out j hlt
      have hx := HNS.out j hlt
      have hy := HDS.out j hlt
      have hpm := part_mul hn1 hnm hx.1 hx.2
      have HY := Lib.hid (fun h => frF_yes (ns := ns) (ds := ds) (n := n) (k := K - (j + 1)) (i := j) h)
      have HN := Lib.hid (fun h => frF_no (ns := ns) (ds := ds) (n := n) (k := K - (j + 1)) (i := j) h)
      have HF2 : Hid (frF ns ds n (K - (j + 1) + 1) j = R) := Lib.hid (by rw [show K - (j + 1) + 1 = K - j by omega]; exact HF.out)
      generalize ns.getD j 0 = x at q1 hx hpm HY HN
      generalize ds.getD j 0 = y at q2 hy HY HN
      obtain ⟨hx1, hx2⟩ := hx
      obtain ⟨hy1, hy2⟩ := hy
      obtain ⟨m, hm⟩ : ∃ m, n * x = m := ⟨_, rfl⟩
      rw [hm] at hpm HY
      rw [hm] at HN
      obtain ⟨hm1, hm2⟩ := hpm
      have hy0 : ¬ y = 0 := by omega
      have hlt2 : (j : Int) < (K : Int) := by omega
      clear HF
      by_cases hz : m % y = 0
      · have HZ := Lib.hid ((HY.out hz).symm.trans HF2.out)
        go_wp2_with fail
        go_ret
        exact ⟨ret_int HZ.out, HB.out⟩
      · have HZ := Lib.hid ((HN.out hz).symm.trans HF2.out)
        go_wp2_with fail
        exact ⟨⟨j + 1, hlt, by go_num, HZ.out⟩, by simp [RowKit.intOf]; omega⟩
    · obtain rfl : j = K := by omega
      have HZ : Hid ((-1 : Int) = R) := Lib.hid (by have := HF.out; rw [Nat.sub_self] at this; exact this)
      have hlt2 : ¬ ((j : Int) < (j : Int)) := by omega
      go_wp2_with fail
      go_ret
      exact ⟨ret_int HZ.out, HB.out⟩

set_option maxHeartbeats 2000000 in
theorem visitOf_any (ns ds : List Int) (n : Int) (v : Value) (w : World) (hg : maB ns ds = true) (hn : manB n = true) (h : MacIn w v ns ds) :
    Calls Try.prog 47 #[v, .int .i64 n] w fun e w' => e = .returned (.agg #[.int .i64 n, .int .i64 (maF ns ds n)]) ∧ Below w.heap.size w w' := by
  obtain ⟨v1, v2, rfl, i1, i2⟩ := h
  obtain ⟨hl, h12, hns, hds⟩ := maB_parts hg
  have hn2 := manB_iff.1 hn
  have B := (Bx.new w v1 v2 28).grow (.cells #[.int .i64 0, .int .i64 0] 50)
  have hb : Below w.heap.size w ((w.alloc (.cells #[v1, v2] 28)).alloc (.cells #[.int .i64 0, .int .i64 0] 50)) := (below_alloc w _).alloc (by simp) _
  replace i1 := i1.kept hb
  replace i2 := i2.kept hb
  have r0 : ((w.alloc (.cells #[v1, v2] 28)).alloc (.cells #[.int .i64 0, .int .i64 0] 50)).cell? ⟨w.heap.size + 1, 0, none⟩ = some (.int .i64 0) := by go_simp
  have r1 : ((w.alloc (.cells #[v1, v2] 28)).alloc (.cells #[.int .i64 0, .int .i64 0] 50)).cell? ⟨w.heap.size + 1, 1, none⟩ = some (.int .i64 0) := by go_simp
  have r2 : ((w.alloc (.cells #[v1, v2] 28)).alloc (.cells #[.int .i64 0, .int .i64 0] 50)).frozen? ⟨w.heap.size + 1, 0, none⟩ = false := by go_simp
  have r3 : ((w.alloc (.cells #[v1, v2] 28)).alloc (.cells #[.int .i64 0, .int .i64 0] 50)).frozen? ⟨w.heap.size + 1, 1, none⟩ = false := by go_simp
  have HB := Lib.hid hb
  obtain ⟨a1, c1, rfl, x1⟩ := i1.rd
  obtain ⟨a2, c2, rfl, x2⟩ := i2.rd
  obtain ⟨K, hK⟩ : ∃ K, ns.length = K := ⟨_, rfl⟩
  rw [hK] at hl h12 hns hds x1 x2
  rw [← hl] at x1 x2
  have HR : Hid (frF ns ds n K 0 = maF ns ds n) := Lib.hid (by rw [maF, hK])
  rw [hK] at B HB r0 r1 r2 r3 ⊢
  rw [← hl] at B HB r0 r1 r2 r3 ⊢
  have HX1 := Lib.hid x1
  have HX2 := Lib.hid x2
  have HNS := Lib.hid hns
  have HDS := Lib.hid hds
  have hK2 : (K : Int) ≤ 12 := by omega
  obtain ⟨hn1, hnm⟩ := hn2
  generalize maF ns ds n = R at *
  clear hg hn hns hds x1 x2 i1 i2 hl hK hb
  go_enter Try.func47, Try.ntmps47
  go_wp2_with fail
  generalize (w.alloc (.cells #[.slice a1 K c1, .slice a2 K c2] 28)).alloc (.cells #[.int .i64 0, .int .i64 0] 50) = W at *
  obtain ⟨b0, b1, b2⟩ := B
  go_loop [10] (fun i => ∃ j : Nat, j ≤ K ∧ i = .int .i64 j ∧ frF ns ds n (K - j) j = R) (fun i => K - (RowKit.intOf i).toNat)
  case atStart => exact ⟨0, Nat.zero_le _, rfl, HR.out⟩
  case round =>
    obtain ⟨j, hj, rfl, hf⟩ := hrel
    have HF := Lib.hid hf
    clear hf
    by_cases hlt : j < K
    · obtain ⟨g1, rfl, l1, q1⟩ := HX1.out j hlt
      obtain ⟨g2, rfl, l2, q2⟩ := HX2.out j hlt
      have hx := HNS.out j hlt
      have hy := HDS.out j hlt
      have hpm := part_mul hn1 hnm hx.1 hx.2
      have HY := Lib.hid (fun h => frF_yes (ns := ns) (ds := ds) (n := n) (k := K - (j + 1)) (i := j) h)
      have HN := Lib.hid (fun h => frF_no (ns := ns) (ds := ds) (n := n) (k := K - (j + 1)) (i := j) h)
      have HF2 : Hid (frF ns ds n (K - (j + 1) + 1) j = R) := Lib.hid (by rw [show K - (j + 1) + 1 = K - j by omega]; exact HF.out)
      generalize ns.getD j 0 = x at q1 hx hpm HY HN
      generalize ds.getD j 0 = y at q2 hy HY HN
      obtain ⟨hx1, hx2⟩ := hx
      obtain ⟨hy1, hy2⟩ := hy
      obtain ⟨m, hm⟩ : ∃ m, n * x = m := ⟨_, rfl⟩
      rw [hm] at hpm HY
      rw [hm] at HN
      obtain ⟨hm1, hm2⟩ := hpm
      have hy0 : ¬ y = 0 := by omega
      have hlt2 : (j : Int) < (K : Int) := by omega
      clear HF
      by_cases hz : m % y = 0
      · have HZ := Lib.hid ((HY.out hz).symm.trans HF2.out)
        go_wp2_with fail
        refine bodyPost_ret (v := .agg #[.int .i64 n, .int .i64 (j : Int)]) (by simp [results, Try.f47, go_sem, r0, r1]) rfl ⟨by rw [← HZ.out], ?_⟩
        exact (HB.out.setCell (by simp) _).setCell (by simp) _
      · have HZ := Lib.hid ((HN.out hz).symm.trans HF2.out)
        go_wp2_with fail
        exact ⟨⟨j + 1, hlt, by go_num, HZ.out⟩, by simp [RowKit.intOf]; omega⟩
    · obtain rfl : j = K := by omega
      have HZ : Hid ((-1 : Int) = R) := Lib.hid (by have := HF.out; rw [Nat.sub_self] at this; exact this)
      have hlt2 : ¬ ((j : Int) < (j : Int)) := by omega
      go_wp2_with fail
      refine bodyPost_ret (v := .agg #[.int .i64 n, .int .i64 (-1)]) (by simp [results, Try.f47, go_sem, r0, r1]) rfl ⟨by rw [← HZ.out], ?_⟩
      exact (HB.out.setCell (by simp) _).setCell (by simp) _
theorem halts_any (n k : Int) (w : World) :
    Calls Try.prog 48 #[.agg #[.int .i64 n, .int .i64 k]] w fun e w' => e = .returned (.bool (decide (k = -1))) ∧ Below w.heap.size w w' := by
  by_cases hk : k = -1
  all_goals
    have hk2 := hk
    go_enter Try.func48, Try.ntmps48
    go_wp2_with fail
    go_ret
    exact ⟨ret_bool (by simp [hk2]), below_alloc _ _⟩
end Go.Proofs.Ytioagnoodgfnpaa
