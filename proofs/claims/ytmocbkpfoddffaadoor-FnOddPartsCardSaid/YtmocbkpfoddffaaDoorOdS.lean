/-
  'spoilt' AND 'DrawParseMap' (gen_ods.py).
-/
import Derived.Test.YtmocbkpfoddffaaDoorOdA
import Derived.Test.YtmocbkpfoddffaaDoorTextM
namespace Go.Proofs.YtmocbkpfoddffaaDoor
open Go.RowKit
set_option linter.unusedVariables false

theorem str_addS (a b : ByteArray) (n k : Nat) (ha : a.size = n) (hb : b.size = k) (h : n + k ≤ 9000) (w : World) : (Op.stringOp .add a b).run Tryd.prog w = .ok (.string (a ++ b)) w :=
  run_string_add_sum w a b (by omega)
theorem conv_one (b : UInt8) (W : World) : (convert 22 9 (.slice (some ⟨W.heap.size, 0, none⟩) 1 1)).run Tryd.prog (W.alloc (.cells #[.int .u8 (b.toNat : Int)] 5)) = .ok (.string (byt [b])) (W.alloc (.cells #[.int .u8 (b.toNat : Int)] 5)) := by
  have := run_convert_bytes_back (P := Tryd.prog) (W.alloc (.cells #[.int .u8 (b.toNat : Int)] 5)) 22 9 5 ⟨W.heap.size, 0, none⟩ 1 [b] Tryd.underlying22 Tryd.underlying5 Tryd.underlying9 (fun i hi => by
    obtain rfl : i = 0 := by simpa using hi
    have e : (⟨W.heap.size, 0, none⟩ : Addr).add 0 = ⟨W.heap.size, 0, none⟩ := by simp [Addr.add]
    rw [e]
    show _ = some (Value.int .u8 (b.toNat : Int))
    go_simp)
  exact this

set_option maxRecDepth 100000 in
set_option maxHeartbeats 8000000 in
theorem spoilt_any (w : World) (g A : Nat) (s : ByteArray) (hs : s.size ≤ 1000) (hA : A ≤ 500000) (h : Cur w g A) (u : ByteArray) (hu : u.size = 6) :
    Calls Tryd.prog 45 #[.pointer (some ⟨g, 0, none⟩), .string s, .string u] w fun e w' => ∃ s' : ByteArray, s'.size ≤ 1100 ∧ e = .returned (.string s') ∧ Cur w' g (A + 20) ∧ w.grownBy w' (some g) := by
  have hglt := h.lt
  have S0 := Lib.hid (St.refl h)
  have HU := Lib.hid hu
  have hconv := conv_one
  clear h hu
  go_enter Tryd.func45, Tryd.ntmps45
  go_wp2_with fail
  refine (pick_any _ g A 2 (by omega) (by omega) (by omega) S0.out.cur).mono ?_
  rintro e w1 ⟨v, v0, v1, rfl, hc, hg⟩
  have S1 := Lib.hid (S0.out.call hc hg)
  clear hc hg S0
  obtain ⟨k, rfl⟩ := Int.eq_ofNat_of_zero_le v0
  have hk : k ≤ 1 := by omega
  clear v0 v1
  go_wp2_with fail
  go_loopw [1, 7] (fun t n wr => ∃ (x : ByteArray) (j : Nat), j ≤ 2 ∧ n = .int .i64 j ∧ t = .string x ∧ x.size ≤ s.size + (2 - j) ∧ Hid (St w wr g (A + 2 + (2 - j) * 6))) (fun _ n _ => (RowKit.intOf n).toNat)
  case atStart => exact ⟨s, 1 + k, by omega, by go_num, rfl, by omega, Lib.hid (S1.out.more (by omega))⟩
  case round =>
    obtain ⟨x, j, hj, rfl, rfl, hx, HS⟩ := hrel
    by_cases h0 : j = 0
    · subst h0
      go_wp2_with fail
      go_ret
      exact ⟨x, by omega, rfl, HS.out.cur.more (by omega), HS.out.gr⟩
    have hj1 : 0 < (j : Int) := by omega
    by_cases hx0 : x.size = 0
    · have hx1 : ¬ 0 < (x.size : Int) := by omega
      clear h0 hx0
      go_wp2_with fail
      go_ret
      exact ⟨x, by omega, rfl, HS.out.cur.more (by omega), HS.out.gr⟩
    have hx1 : 0 < (x.size : Int) := by omega
    clear h0 hx0
    go_wp2_with fail
    refine (pick_any _ g _ (x.size : Int) (by omega) (by omega) (by omega) HS.out.cur).mono ?_
    rintro e w2 ⟨i, i0, i1, rfl, hc, hg⟩
    have S2 := Lib.hid (HS.out.call hc hg)
    have i2 : i < (x.size : Int) := by omega
    obtain ⟨i, rfl⟩ := Int.eq_ofNat_of_zero_le i0
    clear hc hg HS i0 i1
    go_wp2_with fail
    refine (pick_any _ g _ (u.size : Int) (by omega) (by have := HU.out; omega) (by have := HU.out; omega) S2.out.cur).mono ?_
    rintro e w3 ⟨q, q0, q1, rfl, hc, hg⟩
    have S3 := Lib.hid (S2.out.call hc hg)
    have q2 : q < (u.size : Int) := by have := HU.out; omega
    clear hc hg S2 q1
    go_wp2_with fail
    generalize (u[q.toNat]'(by omega)) = bq
    have S4 := Lib.hid (S3.out.alloc (.cells #[.int .u8 (bq.toNat : Int)] 5))
    refine (pick_any _ g _ 3 (by omega) (by omega) (by omega) S4.out.cur).mono ?_
    rintro e w4 ⟨z, z0, z1, rfl, hc, hg⟩
    have S5 := Lib.hid (S4.out.call hc hg)
    have hb1 : (byt [bq]).size = 1 := rfl
    generalize byt [bq] = b1 at *
    obtain ⟨r0, R0, A0⟩ : ∃ r : ByteArray, r.size = i + 1 ∧ ∀ W, (Op.stringOp .add (x.extract 0 i) b1).run Tryd.prog W = .ok (.string r) W := ⟨_, by rw [ByteArray.size_append, ByteArray.size_extract]; omega, fun W => run_string_add_sum W _ _ (by rw [ByteArray.size_extract]; omega)⟩
    obtain ⟨r1, R1, A1⟩ : ∃ r : ByteArray, r.size = x.size + 1 ∧ ∀ W, (Op.stringOp .add r0 (x.extract i x.size)).run Tryd.prog W = .ok (.string r) W := ⟨_, by rw [ByteArray.size_append, ByteArray.size_extract]; omega, fun W => run_string_add_sum W _ _ (by rw [ByteArray.size_extract]; omega)⟩
    obtain ⟨r2, R2, A2⟩ : ∃ r : ByteArray, r.size = x.size ∧ ∀ W, (Op.stringOp .add r0 (x.extract (i + 1) x.size)).run Tryd.prog W = .ok (.string r) W := ⟨_, by rw [ByteArray.size_append, ByteArray.size_extract]; omega, fun W => run_string_add_sum W _ _ (by rw [ByteArray.size_extract]; omega)⟩
    obtain ⟨r3, R3, A3⟩ : ∃ r : ByteArray, r.size ≤ x.size ∧ ∀ W, (Op.stringOp .add (x.extract 0 i) (x.extract (i + 1) x.size)).run Tryd.prog W = .ok (.string r) W := ⟨_, by rw [ByteArray.size_append, ByteArray.size_extract, ByteArray.size_extract]; omega, fun W => run_string_add_sum W _ _ (by rw [ByteArray.size_extract, ByteArray.size_extract]; omega)⟩
    have HR := Lib.hid (And.intro R0 (And.intro R1 (And.intro R2 R3)))
    have hz : z = 0 ∨ z = 1 ∨ z = 2 := by omega
    have i3 : (i : Int) ≤ (x.size : Int) := by omega
    have i4 : (i : Int) + 1 ≤ (x.size : Int) := by omega
    have i5 : (i : Int) ≤ 2000 := by omega
    have HJ1 := Lib.hid hj1
    have HX := Lib.hid hx
    clear hc hg S3 S4 z0 z1 R0 R1 R2 R3 hb1 hx hconv hs q0 q2 hk
    rcases hz with rfl | rfl | rfl
    · clear A2 A3
      go_wp2_with fail
      go_quiet (fail)
      go_wp2_with fail
      go_roundw
      case rel => exact ⟨r1, j - 1, by omega, (show Value.int .i64 ((j : Int) - 1) = .int .i64 ((j - 1 : Nat) : Int) by congr 1; omega), rfl, by have := HR.out; have := HX.out; omega, Lib.hid ((S5.out.draws nq).more (by omega))⟩
      case measure =>
        have := HJ1.out
        simp [RowKit.intOf]
        omega
    · clear A1 A3
      go_wp2_with fail
      go_quiet (fail)
      go_wp2_with fail
      go_roundw
      case rel => exact ⟨r2, j - 1, by omega, (show Value.int .i64 ((j : Int) - 1) = .int .i64 ((j - 1 : Nat) : Int) by congr 1; omega), rfl, by have := HR.out; have := HX.out; omega, Lib.hid ((S5.out.draws nq).more (by omega))⟩
      case measure =>
        have := HJ1.out
        simp [RowKit.intOf]
        omega
    · clear A0 A1 A2
      go_wp2_with fail
      go_quiet (fail)
      go_wp2_with fail
      go_roundw
      case rel => exact ⟨r3, j - 1, by omega, (show Value.int .i64 ((j : Int) - 1) = .int .i64 ((j - 1 : Nat) : Int) by congr 1; omega), rfl, by have := HR.out; have := HX.out; omega, Lib.hid ((S5.out.draws nq).more (by omega))⟩
      case measure =>
        have := HJ1.out
        simp [RowKit.intOf]
        omega
theorem Cur.one1 {w : World} {v : Value} (h : BytesArg w v) (T' : TypeId) : Cur (w.alloc (.cells #[v, .int .i64 0, .int .u64 0] T')) w.heap.size 0 := by
  obtain ⟨a, m, cap, rfl, hm, hx⟩ := h
  have hB : Below w.heap.size w (w.alloc (.cells #[.slice a m cap, .int .i64 0, .int .u64 0] T')) := (Below.refl w.heap.size w).alloc (Nat.le_refl _) _
  refine ⟨⟨a, m, cap, 0, 0, hm, Nat.le_refl _, by go_simp, by go_simp, by go_simp, fun j hj => ?_⟩, by go_simp, by go_simp, by simp⟩
  obtain ⟨b, off, x, e, hbl, hc, h1, h2⟩ := hx j hj
  exact ⟨b, off, x, e, hbl, (hB.cell (p := ⟨b, off + j, none⟩) hbl).trans hc, h1, h2⟩
set_option maxRecDepth 100000 in
set_option maxHeartbeats 8000000 in
theorem DrawParseMap_any (w : World) (v : Value) (hb : BytesArg w v) :
    Calls Tryd.prog 19 #[v] w fun e w' => ∃ s : ByteArray, s.size ≤ 1100 ∧ e = .returned (.string s) ∧ Below w.heap.size w w' := by
  have C0 := Lib.hid (Cur.one1 hb 49)
  have L0 := Lib.hid ((Below.refl w.heap.size w).alloc (Nat.le_refl _) (.cells #[v, .int .i64 0, .int .u64 0] 49))
  obtain ⟨av, nv, cv, hv, -, -⟩ := hb
  subst hv
  go_enter Tryd.func19, Tryd.ntmps19
  go_wp2_with fail
  refine (sureMap_good _ _ 0 (by omega) C0.out).mono ?_
  rintro e w1 ⟨t, p, hgd, rfl, hc, hg⟩
  have L1 := Lib.hid (L0.out.grown hg (by simp) (fun j hj => by injection hj; omega))
  have C1 := Lib.hid hc
  clear hc hg C0 L0
  go_wp2_with fail
  refine (mpText_any t p hgd _).mono ?_
  rintro e w2 ⟨rfl, hb⟩
  have L2 := Lib.hid (L1.out.trans (hb.mono L1.out.size))
  have C2 := Lib.hid (C1.out.kept hb C1.out.lt)
  have hs : (byt (mtx t p)).size = 4 := by simp [mtx, sgd_len, byt, ByteArray.size]
  generalize byt (mtx t p) = s at *
  clear hb C1 L1 hgd
  go_wp2_with fail
  refine (one_any _ _ _ 3 (by omega) (by omega) (by omega) C2.out).mono ?_
  rintro e w3 ⟨b, rfl, hc, hg⟩
  have L3 := Lib.hid (L2.out.grown hg (by have := C2.out.lt; omega) (fun j hj => by injection hj; omega))
  have C3 := Lib.hid hc
  have HS := Lib.hid hs
  clear hc hg C2 L2 hs
  cases b
  · go_wp2_with fail
    go_ret
    exact ⟨s, by have := HS.out; omega, rfl, L3.out⟩
  · go_wp2_with fail
    refine (spoilt_any _ _ _ s (by have := HS.out; omega) (by omega) C3.out ⟨#[49, 51, 53, 120, 43, 45]⟩ rfl).mono ?_
    rintro e w4 ⟨s', hs', rfl, hc, hg⟩
    have L4 := Lib.hid (L3.out.grown hg (by have := C3.out.lt; omega) (fun j hj => by injection hj; omega))
    clear hc hg C3 L3
    go_wp2_with fail
    go_ret
    exact ⟨s', hs', rfl, L4.out⟩

end Go.Proofs.YtmocbkpfoddffaaDoor
