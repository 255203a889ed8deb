/-
  THE CURSOR THAT DRAWS ARGUMENTS OUT OF BYTES: each of its methods hands back something that fits, and it stays a cursor. What it draws is not told: the laws hold at whatever is drawn.
  WHAT THE CURSOR DRAWS: maps, numbers, roots with levels; the functions that draw the arguments of chapter 4.
-/
import Derived.Test.YtponmblponfdaaaLeaf
import Derived.Deep.QuietTactic
import Derived.WalkSmall
import Derived.OwnWalk
import Derived.Maps.AppendAt
import Derived.Deep.RegionHeld3
namespace Go.Proofs.Ytponmblponfdaaa
open Go.RowKit
set_option linter.unusedVariables false

/-- A cursor in block g that has been asked at most A times. -/
structure Cur (W : World) (g A : Nat) : Prop where
  ex : ∃ (a : Option Addr) (n cap k : Nat) (s : Int), n ≤ 1048576 ∧ k ≤ A ∧ W.cell? ⟨g, 0, none⟩ = some (.slice a n cap) ∧ W.cell? ⟨g, 1, none⟩ = some (.int .i64 k) ∧ W.cell? ⟨g, 2, none⟩ = some (.int .u64 s) ∧ ∀ j, j < n → ∃ b off x, a = some ⟨b, off, none⟩ ∧ b < g ∧ W.cell? ⟨b, off + j, none⟩ = some (.int .u8 x) ∧ 0 ≤ x ∧ x ≤ 255
  f1 : W.frozen? ⟨g, 1, none⟩ = false
  f2 : W.frozen? ⟨g, 2, none⟩ = false
  lt : g < W.heap.size
theorem Cur.kept {W W' : World} {g A n : Nat} (h : Cur W g A) (hb : Below n W W') (hn : g < n) : Cur W' g A := by
  obtain ⟨a, m, cap, k, s, h1, h2, h3, h4, h5, h6⟩ := h.ex
  refine ⟨⟨a, m, cap, k, s, h1, h2, (hb.cell (p := ⟨g, 0, none⟩) hn).trans h3, (hb.cell (p := ⟨g, 1, none⟩) hn).trans h4, (hb.cell (p := ⟨g, 2, none⟩) hn).trans h5, fun j hj => ?_⟩, (hb.frozen (p := ⟨g, 1, none⟩) hn).trans h.f1, (hb.frozen (p := ⟨g, 2, none⟩) hn).trans h.f2, Nat.lt_of_lt_of_le h.lt hb.size⟩
  obtain ⟨b, off, x, e, hbg, hc, h7, h8⟩ := h6 j hj
  exact ⟨b, off, x, e, hbg, (hb.cell (p := ⟨b, off + j, none⟩) (Nat.lt_trans hbg hn)).trans hc, h7, h8⟩
theorem Cur.more {W : World} {g A B : Nat} (h : Cur W g A) (hb : A ≤ B) : Cur W g B := by
  obtain ⟨a, m, cap, k, s, h1, h2, h3⟩ := h.ex
  exact ⟨⟨a, m, cap, k, s, h1, by omega, h3⟩, h.f1, h.f2, h.lt⟩
theorem and_255 (z : Int) : 0 ≤ wrap64 (bits .and .u64 z 255) ∧ wrap64 (bits .and .u64 z 255) ≤ 255 := by
  have h : 0 ≤ bits .and .u64 z 255 ∧ bits .and .u64 z 255 ≤ 255 := by
    unfold bits
    have h1 : ((255 : Int)) = ((255 : Nat) : Int) := rfl
    rw [h1]
    simp only [BitVec.ofInt_natCast, BitVec.toNat_and, BitVec.toNat_ofNat]
    have h2 := Nat.and_le_right (n := (BitVec.ofInt IntKind.u64.bits z).toNat) (m := 255 % 2 ^ IntKind.u64.bits)
    have h3 : 255 % 2 ^ IntKind.u64.bits = 255 := by decide
    rw [h3] at h2 ⊢
    generalize (BitVec.ofInt IntKind.u64.bits z).toNat &&& 255 = r at h2 ⊢
    rw [IntKind.wrap_u64]
    omega
  unfold wrap64
  omega
theorem cur_step {w : World} {g A n cap k : Nat} {a : Option Addr} {s s' : Int} (m m' : Nat) (hn : n ≤ 1048576) (hk : k ≤ A) (c0 : w.cell? ⟨g, 0, none⟩ = some (.slice a n cap)) (c1 : w.cell? ⟨g, 1, none⟩ = some (.int .i64 k)) (c2 : w.cell? ⟨g, 2, none⟩ = some (.int .u64 s)) (f1 : w.frozen? ⟨g, 1, none⟩ = false) (f2 : w.frozen? ⟨g, 2, none⟩ = false) (hlt : g < w.heap.size)
    (hb : ∀ j, j < n → ∃ b off x, a = some ⟨b, off, none⟩ ∧ b < g ∧ w.cell? ⟨b, off + j, none⟩ = some (.int .u8 x) ∧ 0 ≤ x ∧ x ≤ 255) :
    Cur ((((w.drewN m).setCell ⟨g, 1, none⟩ (.int .i64 ((k : Int) + 1))).setCell ⟨g, 2, none⟩ (.int .u64 s')).drewN m') g (A + 1) ∧ w.grownBy ((((w.drewN m).setCell ⟨g, 1, none⟩ (.int .i64 ((k : Int) + 1))).setCell ⟨g, 2, none⟩ (.int .u64 s')).drewN m') (some g) := by
  have hB : Below g w ((((w.drewN m).setCell ⟨g, 1, none⟩ (.int .i64 ((k : Int) + 1))).setCell ⟨g, 2, none⟩ (.int .u64 s')).drewN m') := below_drewN (((below_drewN (Below.refl g w) m).setCell (Nat.le_refl g) _).setCell (Nat.le_refl g) _) m'
  refine ⟨⟨⟨a, n, cap, k + 1, s', hn, by omega, ?_, ?_, ?_, fun j hj => ?_⟩, ?_, ?_, ?_⟩, rfl, rfl, rfl, hB.size, fun j hj hne => ?_⟩
  · go_simp
  · go_simp
  · go_simp
  · obtain ⟨b, off, x, e, hbg, hc, h7, h8⟩ := hb j hj
    exact ⟨b, off, x, e, hbg, (hB.cell (p := ⟨b, off + j, none⟩) hbg).trans hc, h7, h8⟩
  · go_simp
  · go_simp
  · exact Nat.lt_of_lt_of_le hlt hB.size
  · have h1 : j ≠ g := fun e => hne (by rw [e])
    exact (Below.heap_setCell _ _ _ _ h1).trans (Below.heap_setCell _ _ _ _ h1)
set_option maxRecDepth 100000 in
set_option maxHeartbeats 2000000 in
theorem next_any (w : World) (g A : Nat) (hA : A ≤ 1000000) (h : Cur w g A) :
    Calls Try.prog 85 #[.pointer (some ⟨g, 0, none⟩)] w fun e w' => ∃ v : Int, 0 ≤ v ∧ v ≤ 255 ∧ e = .returned (.int .i64 v) ∧ Cur w' g (A + 1) ∧ w.grownBy w' (some g) := by
  obtain ⟨a, n, cap, k, s, hn, hk, c0, c1, c2, hb⟩ := h.ex
  obtain ⟨f1, f2, hlt⟩ : w.frozen? ⟨g, 1, none⟩ = false ∧ w.frozen? ⟨g, 2, none⟩ = false ∧ g < w.heap.size := ⟨h.f1, h.f2, h.lt⟩
  have HB := Lib.hid hb
  have hk1 : (k : Int) ≤ 1000000 := by omega
  have hn1 : (n : Int) ≤ 1048576 := by omega
  clear hb h
  by_cases hkn : k < n
  · obtain ⟨b, off, x, rfl, hbg, qx, x0, x1⟩ := HB.out k hkn
    have hkn1 : (k : Int) < (n : Int) := by omega
    go_enter Try.func85, Try.ntmps85
    go_wp2
    go_quiet (fail)
    go_wp2
    go_quiet (fail)
    go_wp2
    go_quiet (fail)
    go_wp2
    go_ret
    obtain ⟨hC, hB⟩ := cur_step _ _ hn hk c0 c1 c2 f1 f2 hlt HB.out
    exact ⟨x, x0, x1, rfl, hC, hB⟩
  · have hkn1 : ¬ (k : Int) < (n : Int) := by omega
    have hkn2 : ¬ (k : Int) + 1 ≤ (n : Int) := by omega
    go_enter Try.func85, Try.ntmps85
    go_wp2
    go_quiet (fail)
    go_wp2
    go_quiet (fail)
    go_wp2
    go_ret
    obtain ⟨hC, hB⟩ := cur_step _ _ hn hk c0 c1 c2 f1 f2 hlt HB.out
    exact ⟨_, (and_255 _).1, (and_255 _).2, rfl, hC, hB⟩
set_option maxRecDepth 100000 in
set_option maxHeartbeats 2000000 in
theorem pick_any (w : World) (g A : Nat) (n : Int) (hA : A ≤ 900000) (n1 : -1000000000 ≤ n) (n2 : n ≤ 1000000000) (h : Cur w g A) :
    Calls Try.prog 68 #[.pointer (some ⟨g, 0, none⟩), .int .i64 n] w fun e w' => ∃ v : Int, 0 ≤ v ∧ (v < n ∨ v = 0) ∧ e = .returned (.int .i64 v) ∧ Cur w' g (A + 2) ∧ w.grownBy w' (some g) := by
  have H := Lib.hid h
  have N1 : Hid (∀ w A, A ≤ 1000000 → Cur w g A → Calls Try.prog 85 #[.pointer (some ⟨g, 0, none⟩)] w fun e w' => ∃ v : Int, 0 ≤ v ∧ v ≤ 255 ∧ e = .returned (.int .i64 v) ∧ Cur w' g (A + 1) ∧ w.grownBy w' (some g)) := Lib.hid (fun w A hA h => next_any w g A hA h)
  clear h
  by_cases h1 : n ≤ 1
  · go_enter Try.func68, Try.ntmps68
    go_wp2
    go_ret
    exact ⟨0, by omega, .inr rfl, rfl, H.out.more (by omega), World.grownBy.refl _ _⟩
  · by_cases h2 : n ≤ 200
    · go_enter Try.func68, Try.ntmps68
      go_wp2_with (go_at_call 85; refine (N1.out _ _ (by omega) H.out).mono ?_; rintro e w1 ⟨v, v0, v1, rfl, hc, hg⟩)
      go_ret
      exact ⟨v % n, Int.emod_nonneg _ (by omega), .inl (Int.emod_lt_of_pos _ (by omega)), rfl, hc.more (by omega), hg⟩
    · go_enter Try.func68, Try.ntmps68
      go_wp2_with (first
        | (go_at_call 85; refine (N1.out _ _ (by omega) H.out).mono ?_; rintro e w1 ⟨v, v0, v1, rfl, hc, hg⟩; have HC := Lib.hid hc; have HG := Lib.hid hg; clear hc hg H)
        | (go_at_call 85; refine (N1.out _ _ (by omega) HC.out).mono ?_; rintro e w1 ⟨u, u0, u1, rfl, hc, hg⟩; have HC2 := Lib.hid hc; have HG2 := Lib.hid hg; clear hc hg HC))
      go_ret
      exact ⟨_, Int.emod_nonneg _ (by omega), .inl (Int.emod_lt_of_pos _ (by omega)), rfl, HC2.out.more (by omega), HG.out.trans HG2.out⟩
set_option maxRecDepth 100000 in
set_option maxHeartbeats 2000000 in
theorem one_any (w : World) (g A : Nat) (n : Int) (hA : A ≤ 900000) (n1 : -1000000000 ≤ n) (n2 : n ≤ 1000000000) (h : Cur w g A) :
    Calls Try.prog 83 #[.pointer (some ⟨g, 0, none⟩), .int .i64 n] w fun e w' => ∃ b : Bool, e = .returned (.bool b) ∧ Cur w' g (A + 2) ∧ w.grownBy w' (some g) := by
  have HP := Lib.hid (pick_any w g A n hA n1 n2 h)
  clear h n1 n2
  go_enter Try.func83, Try.ntmps83
  go_wp2_with (go_at_call 68; refine HP.out.mono ?_; rintro e w1 ⟨v, v0, v1, rfl, hc, hg⟩; clear v1 v0)
  go_ret
  exact ⟨_, rfl, hc, hg⟩
/-- An integer of 64 bits. -/
def isI : Value → Bool
  | .int .i64 x => (Lit.int .i64 x).wf
  | _ => false
theorem isI_some {v : Value} (h : isI v = true) : ∃ x, v = .int .i64 x ∧ (Lit.int .i64 x).wf = true := by
  unfold isI at h
  split at h
  · exact ⟨_, rfl, h⟩
  · cases h
theorem grown_behind_alloc {w w' : World} {g : Nat} {o : Obj} (h : (w.alloc o).grownBy w' (some g)) (hg : g < w.heap.size) : w.grownBy w' (some g) :=
  ⟨h.os, h.tape, h.output, Nat.le_trans (by simp) h.size, fun k hk hne => (h.block k (by simp; omega) hne).trans (Below.heap_alloc _ _ _ hk)⟩
set_option maxRecDepth 100000 in
set_option maxHeartbeats 2000000 in
theorem among_arr (w : World) (g A : Nat) (vs : Array Value) (T : TypeId) (L : Nat) (hL : vs.size = L) (h0 : 0 < L) (h1 : L ≤ 1000) (hv : vs.all isI = true) (hA : A ≤ 900000) (h : Cur w g A) :
    Calls Try.prog 51 #[.pointer (some ⟨g, 0, none⟩), .slice (some ⟨w.heap.size, 0, none⟩) L L] (w.alloc (.cells vs T)) fun e w' => ∃ x : Int, (Lit.int .i64 x).wf = true ∧ e = .returned (.int .i64 x) ∧ Cur w' g (A + 2) ∧ w.grownBy w' (some g) := by
  have hlt := h.lt
  have hcell : ∀ m : Nat, m < L → ∃ x, (w.alloc (.cells vs T)).cell? ⟨w.heap.size, m, none⟩ = some (.int .i64 x) ∧ (Lit.int .i64 x).wf = true := fun m hm => by
    obtain ⟨x, hx, hw⟩ := isI_some (Array.all_eq_true.1 hv m (by omega))
    refine ⟨x, ?_, hw⟩
    rw [← hx]
    go_simp
  have HC0 := Lib.hid (h.kept ((Below.refl w.heap.size w).alloc (Nat.le_refl _) (.cells vs T)) hlt)
  have HP := Lib.hid (fun v (n1 : -1000000000 ≤ v) (n2 : v ≤ 1000000000) => pick_any (w.alloc (.cells vs T)) g A v hA n1 n2 HC0.out)
  have HX := Lib.hid hcell
  have hl1 : (L : Int) ≤ 1000 := by omega
  clear hcell h hv HC0
  go_enter Try.func51, Try.ntmps51
  go_wp2_with fail
  refine (HP.out _ (by omega) (by omega)).mono ?_
  rintro e w1 ⟨v, v0, v1, rfl, hc, hg⟩
  obtain ⟨m, rfl⟩ := Int.eq_ofNat_of_zero_le v0
  obtain ⟨x, hx, hw⟩ := HX.out m (by omega)
  have q := hg.cell hx (fun e => absurd (Option.some.inj e) (Nat.ne_of_gt hlt))
  have hm : (m : Int) < (L : Int) := by omega
  have HW := Lib.hid hw
  have HCC := Lib.hid hc
  have HG := Lib.hid hg
  clear hc hg hx hw v0 v1
  go_wp2
  go_ret
  exact ⟨x, HW.out, rfl, HCC.out, grown_behind_alloc HG.out (by omega)⟩
/-- From w to W: a cursor still, and nothing else that was there has turned. -/
structure St (w W : World) (g A : Nat) : Prop where
  cur : Cur W g A
  gr : w.grownBy W (some g)
theorem St.refl {w : World} {g A : Nat} (h : Cur w g A) : St w w g A := ⟨h, World.grownBy.refl _ _⟩
theorem St.alloc {w W : World} {g A : Nat} (h : St w W g A) (o : Obj) : St w (W.alloc o) g A :=
  ⟨h.cur.kept ((Below.refl W.heap.size W).alloc (Nat.le_refl _) o) h.cur.lt, h.gr.os, h.gr.tape, h.gr.output, Nat.le_trans h.gr.size (by simp), fun k hk hne => (Below.heap_alloc _ _ _ (Nat.lt_of_lt_of_le hk h.gr.size)).trans (h.gr.block k hk hne)⟩
theorem St.set {w W : World} {g A r k : Nat} (h : St w W g A) (hr : w.heap.size ≤ r) (hg : g < w.heap.size) (v : Value) : St w (W.setCell ⟨r, k, none⟩ v) g A :=
  ⟨h.cur.kept ((Below.refl (g + 1) W).setCell (p := ⟨r, k, none⟩) (by dsimp only; omega) v) (Nat.lt_succ_self g), h.gr.os, h.gr.tape, h.gr.output, Nat.le_trans h.gr.size (by simp [World.setCell]), fun j hj hne => (Below.heap_setCell W ⟨r, k, none⟩ v j (by dsimp only; omega)).trans (h.gr.block j hj hne)⟩
theorem St.call {w W W' : World} {g A A' : Nat} (h : St w W g A) (hc : Cur W' g A') (hg : W.grownBy W' (some g)) : St w W' g A' := ⟨hc, h.gr.trans hg⟩
theorem St.more {w W : World} {g A A' : Nat} (h : St w W g A) (hA : A ≤ A') : St w W g A' := ⟨h.cur.more hA, h.gr⟩
theorem St.drew {w W : World} {g A : Nat} (h : St w W g A) : St w W.drew g A := ⟨h.cur.kept (Below.drew (Below.refl W.heap.size W)) h.cur.lt, h.gr.os, h.gr.tape, h.gr.output, h.gr.size, h.gr.block⟩
/-- A block of two cells that may be written. -/
structure Box2 (W : World) (r : Nat) (a b : Value) : Prop where
  c0 : W.cell? ⟨r, 0, none⟩ = some a
  c1 : W.cell? ⟨r, 1, none⟩ = some b
  f0 : W.frozen? ⟨r, 0, none⟩ = false
  f1 : W.frozen? ⟨r, 1, none⟩ = false
  lt : r < W.heap.size
theorem Box2.new (w : World) (a b : Value) (T : TypeId) : Box2 (w.alloc (.cells #[a, b] T)) w.heap.size a b := by
  refine ⟨?_, ?_, ?_, ?_, by simp⟩ <;> go_simp
theorem Box2.grown {W W' : World} {r g : Nat} {a b : Value} (h : Box2 W r a b) (hg : W.grownBy W' (some g)) (hne : g < r) : Box2 W' r a b := by
  have hn : some r ≠ some g := fun e => absurd (Option.some.inj e) (Nat.ne_of_gt hne)
  exact ⟨hg.cell h.c0 hn, hg.cell h.c1 hn, (World.frozen?_of_block (a := ⟨r, 0, none⟩) (hg.block r h.lt hn)).trans h.f0, (World.frozen?_of_block (a := ⟨r, 1, none⟩) (hg.block r h.lt hn)).trans h.f1, Nat.lt_of_lt_of_le h.lt hg.size⟩
theorem Box2.kept {W W' : World} {r n : Nat} {a b : Value} (h : Box2 W r a b) (hb : Below n W W') (hn : r < n) : Box2 W' r a b :=
  ⟨(hb.cell (p := ⟨r, 0, none⟩) hn).trans h.c0, (hb.cell (p := ⟨r, 1, none⟩) hn).trans h.c1, (hb.frozen (p := ⟨r, 0, none⟩) hn).trans h.f0, (hb.frozen (p := ⟨r, 1, none⟩) hn).trans h.f1, Nat.lt_of_lt_of_le h.lt hb.size⟩
set_option maxRecDepth 100000 in
set_option maxHeartbeats 2000000 in
theorem sureMap_any (w : World) (g A : Nat) (hA : A ≤ 800000) (h : Cur w g A) :
    Calls Try.prog 82 #[.pointer (some ⟨g, 0, none⟩)] w fun e w' => ∃ t p : Int, e = .returned (.agg #[.int .i64 t, .int .i64 p]) ∧ Cur w' g (A + 6) ∧ w.grownBy w' (some g) := by
  have hlt := h.lt
  have S0 := Lib.hid (St.alloc (St.refl h) (.cells #[.int .i64 0, .int .i64 0] 25))
  have B0 := Lib.hid (Box2.new w (.int .i64 0) (.int .i64 0) 25)
  clear h
  go_enter Try.func82, Try.ntmps82
  go_wp2_with fail
  refine (one_any _ g A 2 (by omega) (by omega) (by omega) S0.out.cur).mono ?_
  rintro e w1 ⟨b, rfl, hc, hg⟩
  have S1 := Lib.hid (S0.out.call hc hg)
  have B1 := Lib.hid (B0.out.grown hg hlt)
  clear hc hg S0 B0
  cases b
  · go_wp2_with fail
    refine (among_arr _ g _ _ _ 6 rfl (by decide) (by decide) (by kernel_rfl) (by omega) S1.out.cur).mono ?_
    rintro e w2 ⟨x, _, rfl, hc, hg⟩
    have S2 := Lib.hid (S1.out.call hc hg)
    have B2 := Lib.hid (B1.out.grown hg hlt)
    clear hc hg S1 B1
    go_wp2_with fail
    refine (among_arr _ g _ _ _ 6 rfl (by decide) (by decide) (by kernel_rfl) (by omega) S2.out.cur).mono ?_
    rintro e w3 ⟨y, _, rfl, hc, hg⟩
    have S3 := Lib.hid (S2.out.call hc hg)
    have B3 := Lib.hid (B2.out.grown hg hlt)
    clear hc hg S2 B2
    obtain ⟨d0, d1, f0, f1, hz⟩ := B3.out
    go_wp2
    have S4 := (S3.out.set (r := w.heap.size) (k := 0) (Nat.le_refl _) hlt (.int .i64 x)).set (r := w.heap.size) (k := 1) (Nat.le_refl _) hlt (.int .i64 y)
    exact bodyPost_ret (v := .agg #[.int .i64 x, .int .i64 y]) (by simp [results, Try.results82, go_sem, d0, d1]) rfl ⟨x, y, rfl, S4.cur, S4.gr⟩
  · obtain ⟨d0, d1, f0, f1, hz⟩ := B1.out
    go_wp2
    have S4 := (S1.out.set (r := w.heap.size) (k := 0) (Nat.le_refl _) hlt (.int .i64 3)).set (r := w.heap.size) (k := 1) (Nat.le_refl _) hlt (.int .i64 1)
    exact bodyPost_ret (v := .agg #[.int .i64 3, .int .i64 1]) (by simp [results, Try.results82, go_sem, d0, d1]) rfl ⟨3, 1, rfl, S4.cur.more (by omega), S4.gr⟩
theorem Box2.grown' {W W' : World} {r g : Nat} {a b : Value} (h : Box2 W r a b) (hg : W.grownBy W' (some g)) (hne : r ≠ g) : Box2 W' r a b := by
  have hn : some r ≠ some g := fun e => hne (Option.some.inj e)
  exact ⟨hg.cell h.c0 hn, hg.cell h.c1 hn, (World.frozen?_of_block (a := ⟨r, 0, none⟩) (hg.block r h.lt hn)).trans h.f0, (World.frozen?_of_block (a := ⟨r, 1, none⟩) (hg.block r h.lt hn)).trans h.f1, Nat.lt_of_lt_of_le h.lt hg.size⟩
/-- The bytes that a call is given. -/
def BytesArg (W : World) (v : Value) : Prop := ∃ (a : Option Addr) (n cap : Nat), v = .slice a n cap ∧ n ≤ 1048576 ∧ ∀ j, j < n → ∃ b off x, a = some ⟨b, off, none⟩ ∧ b < W.heap.size ∧ W.cell? ⟨b, off + j, none⟩ = some (.int .u8 x) ∧ 0 ≤ x ∧ x ≤ 255
theorem BytesArg.kept {W W' : World} {v : Value} {n : Nat} (h : BytesArg W v) (hb : Below n W W') (hn : W.heap.size ≤ n) : BytesArg W' v := by
  obtain ⟨a, m, cap, rfl, hm, hx⟩ := h
  refine ⟨a, m, cap, rfl, hm, fun j hj => ?_⟩
  obtain ⟨b, off, x, e, hbl, hc, h1, h2⟩ := hx j hj
  exact ⟨b, off, x, e, Nat.lt_of_lt_of_le hbl hb.size, (hb.cell (p := ⟨b, off + j, none⟩) (Nat.lt_of_lt_of_le hbl hn)).trans hc, h1, h2⟩
theorem Cur.new {w : World} {v : Value} (h : BytesArg w v) (x y : Value) (T T' : TypeId) : Cur ((w.alloc (.cells #[x, y] T)).alloc (.cells #[v, .int .i64 0, .int .u64 0] T')) (w.heap.size + 1) 0 := by
  obtain ⟨a, m, cap, rfl, hm, hx⟩ := h
  have hB : Below w.heap.size w ((w.alloc (.cells #[x, y] T)).alloc (.cells #[.slice a m cap, .int .i64 0, .int .u64 0] T')) := ((Below.refl w.heap.size w).alloc (Nat.le_refl _) _).alloc (by simp) _
  refine ⟨⟨a, m, cap, 0, 0, hm, Nat.le_refl _, by go_simp, by go_simp, by go_simp, fun j hj => ?_⟩, by go_simp, by go_simp, by simp⟩
  obtain ⟨b, off, x, e, hbl, hc, h1, h2⟩ := hx j hj
  exact ⟨b, off, x, e, by omega, (hB.cell (p := ⟨b, off + j, none⟩) hbl).trans hc, h1, h2⟩
end Go.Proofs.Ytponmblponfdaaa

namespace Go.Proofs.Ytponmblponfdaaa
open Go.RowKit
set_option linter.unusedVariables false

theorem wf_small {x : Int} (h1 : -1000000000 ≤ x) (h2 : x ≤ 1000000000) : (Lit.int .i64 x).wf = true := by
  simp only [Lit.wf, IntKind.min, IntKind.max, IntKind.signed, IntKind.bits, Bool.and_eq_true, decide_eq_true_eq, if_true]
  omega
set_option maxRecDepth 100000 in
set_option maxHeartbeats 4000000 in
theorem number_any (w : World) (g A : Nat) (hA : A ≤ 700000) (h : Cur w g A) :
    Calls Try.prog 84 #[.pointer (some ⟨g, 0, none⟩)] w fun e w' => ∃ x : Int, (Lit.int .i64 x).wf = true ∧ e = .returned (.int .i64 x) ∧ Cur w' g (A + 8) ∧ w.grownBy w' (some g) := by
  have S0 := Lib.hid (St.refl h)
  clear h
  go_enter Try.func84, Try.ntmps84
  go_wp2_with fail
  refine (one_any _ g A 12 (by omega) (by omega) (by omega) S0.out.cur).mono ?_
  rintro e w1 ⟨b, rfl, hc, hg⟩
  have S1 := Lib.hid (S0.out.call hc hg)
  clear hc hg S0
  cases b
  case true =>
    go_wp2_with fail
    refine (among_arr _ g _ _ _ 6 rfl (by decide) (by decide) (by kernel_rfl) (by omega) S1.out.cur).mono ?_
    rintro e w2 ⟨x, hx, rfl, hc, hg⟩
    have S2 := Lib.hid (S1.out.call hc hg)
    have HX := Lib.hid hx
    clear hc hg S1 hx
    go_wp2
    go_ret
    exact ⟨x, HX.out, rfl, S2.out.cur.more (by omega), S2.out.gr⟩
  case false =>
    go_wp2_with fail
    refine (one_any _ g _ 6 (by omega) (by omega) (by omega) S1.out.cur).mono ?_
    rintro e w2 ⟨b, rfl, hc, hg⟩
    have S2 := Lib.hid (S1.out.call hc hg)
    clear hc hg S1
    cases b
    case true =>
      go_wp2_with fail
      refine (pick_any _ g _ 40 (by omega) (by omega) (by omega) S2.out.cur).mono ?_
      rintro e w3 ⟨x, x0, x1, rfl, hc, hg⟩
      have S3 := Lib.hid (S2.out.call hc hg)
      have x2 : x ≤ 40 := by omega
      clear hc hg S2 x1
      go_wp2
      go_ret
      exact ⟨_, wf_small (by omega) (by omega), rfl, S3.out.cur.more (by omega), S3.out.gr⟩
    case false =>
      go_wp2_with fail
      refine (one_any _ g _ 5 (by omega) (by omega) (by omega) S2.out.cur).mono ?_
      rintro e w3 ⟨b, rfl, hc, hg⟩
      have S3 := Lib.hid (S2.out.call hc hg)
      clear hc hg S2
      cases b
      case true =>
        go_wp2_with fail
        refine (pick_any _ g _ 1000 (by omega) (by omega) (by omega) S3.out.cur).mono ?_
        rintro e w4 ⟨x, x0, x1, rfl, hc, hg⟩
        have S4 := Lib.hid (S3.out.call hc hg)
        have x2 : x ≤ 1000 := by omega
        clear hc hg S3 x1
        go_wp2
        go_ret
        exact ⟨_, wf_small (by omega) (by omega), rfl, S4.out.cur.more (by omega), S4.out.gr⟩
      case false =>
        go_wp2_with fail
        refine (pick_any _ g _ 120 (by omega) (by omega) (by omega) S3.out.cur).mono ?_
        rintro e w4 ⟨x, x0, x1, rfl, hc, hg⟩
        have S4 := Lib.hid (S3.out.call hc hg)
        have x2 : x ≤ 120 := by omega
        clear hc hg S3 x1
        go_wp2
        go_ret
        exact ⟨_, wf_small (by omega) (by omega), rfl, S4.out.cur.more (by omega), S4.out.gr⟩
theorem among_drew (w : World) (g A : Nat) (vs : Array Value) (T : TypeId) (L : Nat) (hL : vs.size = L) (h0 : 0 < L) (h1 : L ≤ 1000) (hv : vs.all isI = true) (hA : A ≤ 900000) (h : Cur w g A) :
    Calls Try.prog 51 #[.pointer (some ⟨g, 0, none⟩), .slice (some ⟨w.heap.size, 0, none⟩) L L] ((w.alloc (.cells vs T)).drew) fun e w' => ∃ x : Int, (Lit.int .i64 x).wf = true ∧ e = .returned (.int .i64 x) ∧ Cur w' g (A + 2) ∧ w.grownBy w' (some g) :=
  (among_arr w.drew g A vs T L hL h0 h1 hv hA (St.drew (St.refl h)).cur).mono fun e w' ⟨x, hx, he, hc, hg⟩ => ⟨x, hx, he, hc, hg.os, hg.tape, hg.output, hg.size, hg.block⟩
theorem St.draws {w W : World} {g A : Nat} (h : St w W g A) (n : Nat) : St w (W.drewN n) g A := ⟨h.cur.kept (below_drewN (Below.refl W.heap.size W) n) h.cur.lt, h.gr.os, h.gr.tape, h.gr.output, h.gr.size, h.gr.block⟩
theorem Box2.drew {W : World} {r : Nat} {a b : Value} (h : Box2 W r a b) : Box2 W.drew r a b := h.kept (Below.drew (Below.refl W.heap.size W)) h.lt
theorem Box2.alloc {W : World} {r : Nat} {a b : Value} (h : Box2 W r a b) (o : Obj) : Box2 (W.alloc o) r a b := h.kept ((Below.refl W.heap.size W).alloc (Nat.le_refl _) o) h.lt
end Go.Proofs.Ytponmblponfdaaa
