/-
  THE LAW 'StepsGoOfAll': what the answers of chapter 1 have to do with each other, for its walk.
-/
import Derived.Test.YtebbafapcknllaaVs
import Derived.Deep.CutRange
namespace Go.Proofs.Ytebbafapcknllaa
open Go.RowKit
set_option linter.unusedVariables false

/-- Three maps in blocks, one behind the other. -/
structure Maps3 (W : World) (B : Nat) (t p t' p' t'' p'' : Int) : Prop where
  c0 : W.cell? ⟨B, 0, none⟩ = some (.int .i64 t)
  c1 : W.cell? ⟨B, 1, none⟩ = some (.int .i64 p)
  d0 : W.cell? ⟨B + 1, 0, none⟩ = some (.int .i64 t')
  d1 : W.cell? ⟨B + 1, 1, none⟩ = some (.int .i64 p')
  e0 : W.cell? ⟨B + 1 + 1, 0, none⟩ = some (.int .i64 t'')
  e1 : W.cell? ⟨B + 1 + 1, 1, none⟩ = some (.int .i64 p'')
  lt : B + 2 < W.heap.size
theorem Maps3.kept {W W' : World} {B : Nat} {t p t' p' t'' p'' : Int} (h : Maps3 W B t p t' p' t'' p'') (hb : Below W.heap.size W W') : Maps3 W' B t p t' p' t'' p'' := by
  have l := h.lt
  exact ⟨kept_cell hb (by omega) h.c0, kept_cell hb (by omega) h.c1, kept_cell hb (by omega) h.d0, kept_cell hb (by omega) h.d1, kept_cell hb (by omega) h.e0, kept_cell hb (by omega) h.e1, Nat.lt_of_lt_of_le l hb.size⟩
theorem maps3_start {w w1 : World} {t p t' p' t'' p'' : Int} {T : TypeId}
    (hb : Below (((w.alloc (.cells #[.int .i64 t, .int .i64 p] T)).alloc (.cells #[.int .i64 t', .int .i64 p'] T)).alloc (.cells #[.int .i64 t'', .int .i64 p''] T)).heap.size
      (((w.alloc (.cells #[.int .i64 t, .int .i64 p] T)).alloc (.cells #[.int .i64 t', .int .i64 p'] T)).alloc (.cells #[.int .i64 t'', .int .i64 p''] T)) w1) :
    Maps3 w1 w.heap.size t p t' p' t'' p'' ∧ Below w.heap.size w w1 := by
  refine ⟨Maps3.kept (W := (((w.alloc (.cells #[.int .i64 t, .int .i64 p] T)).alloc (.cells #[.int .i64 t', .int .i64 p'] T)).alloc (.cells #[.int .i64 t'', .int .i64 p''] T))) ⟨?_, ?_, ?_, ?_, ?_, ?_, by simp⟩ hb, ((((Below.refl _ w).alloc (Nat.le_refl _) _).alloc (by simp) _).alloc (by simp; omega) _).trans (hb.mono (by simp; omega))⟩
  all_goals (go_simp; done)
theorem pk_ok (s : Bool) (t p n k : Int) : (pk s t p n k).2.2 = (aft t p (nx t p) n k).2 := by
  unfold pk
  split
  · rename_i h; exact h.symm
  · rename_i h; simpa using h
/-- The region with which a text begins. -/
def firstReg : Code → Option Nat
  | .region n _ _ => some n
  | .seq a _ => firstReg a
  | _ => none
/-- What follows in a sequence, from a region on. -/
def restFrom (n : Nat) : Code → Option Code
  | .seq a b => if firstReg b = some n then some b else (match restFrom n a with
    | some c => some c
    | none => restFrom n b)
  | .block _ c => restFrom n c
  | .scope c => restFrom n c
  | _ => none

/-- What the letters of the walk stand for. -/
structure SgF (t p n k A : Int) (b : Bool) (xs : List Int) (ob : Bool) (sg : ByteArray) (od : Nat) (P1 P2 L1 L2 s1 : Int) (se : Bool) : Prop where
  hA : (aft t p (nx t p) n k).1 = A
  hb : (aft t p (nx t p) n k).2 = b
  hxs : pofL t p n k = xs
  hob : pofB t p n k = ob
  hsg : sig t p n k = sg
  hod : odd t p n k = od
  hP1 : (pk true t p n k).1 = P1
  hP2 : (pk true t p n k).2.1 = P2
  hL1 : (pk false t p n k).1 = L1
  hL2 : (pk false t p n k).2.1 = L2
  hs1 : (som t p n k).1 = s1
  hse : (som t p n k).2 = se
theorem sgf_len {t p n k A : Int} {b : Bool} {xs : List Int} {ob : Bool} {sg : ByteArray} {od : Nat} {P1 P2 L1 L2 s1 : Int} {se : Bool} (h : SgF t p n k A b xs ob sg od P1 P2 L1 L2 s1 se) : xs.length ≤ 1000000 := by
  rw [← h.hxs]
  unfold pofL
  split
  · rename_i h
    simp only [pofB, Bool.and_eq_true, decide_eq_true_eq] at h
    rw [pathL_length]; omega
  · simp
theorem sgf_good {t p n k A : Int} {b : Bool} {xs : List Int} {ob : Bool} {sg : ByteArray} {od : Nat} {P1 P2 L1 L2 s1 : Int} {se : Bool} (h : SgF t p n k A b xs ob sg od P1 P2 L1 L2 s1 se) (hb : b = true) : goodB t p = true := by
  rw [← h.hb] at hb
  obtain ⟨K, hK, _, hg, _⟩ := aft_yes hb
  exact hg
theorem sgf_ob {t p n k A : Int} {b : Bool} {xs : List Int} {ob : Bool} {sg : ByteArray} {od : Nat} {P1 P2 L1 L2 s1 : Int} {se : Bool} (h : SgF t p n k A b xs ob sg od P1 P2 L1 L2 s1 se) (ho : ob = true) : b = true := by
  rw [← h.hob] at ho
  rw [← h.hb]
  simp only [pofB, Bool.and_eq_true] at ho
  exact ho.1
theorem sgf_se {t p n k A : Int} {b : Bool} {xs : List Int} {ob : Bool} {sg : ByteArray} {od : Nat} {P1 P2 L1 L2 s1 : Int} {se : Bool} (h : SgF t p n k A b xs ob sg od P1 P2 L1 L2 s1 se) (ho : se = true) : b = true := by
  rw [← h.hse] at ho
  rw [← h.hb]
  unfold som at ho
  split at ho
  · rename_i hh; exact hh.1
  · cases ho
/-- How many of the first k are odd. -/
def oda (a : Nat → Int) : Nat → Nat
  | 0 => 0
  | k + 1 => oda a k + if oddB (a k) = true then 1 else 0
theorem oda_ods (f : Int → Int) (n : Int) : ∀ k, oda (fun i => itr f i n) k = ods f n k
  | 0 => rfl
  | k + 1 => by rw [oda, ods, oda_ods f n k]
theorem oda_le (a : Nat → Int) : ∀ k, oda a k ≤ k
  | 0 => Nat.le_refl _
  | k + 1 => by have := oda_le a k; rw [oda]; split <;> omega
theorem oda_odd {a : Nat → Int} {k : Nat} (h : oddB (a k) = true) : oda a (k + 1) = oda a k + 1 := by rw [oda, if_pos h]
theorem oda_even {a : Nat → Int} {k : Nat} (h : oddB (a k) = false) : oda a (k + 1) = oda a k := by rw [oda, h]; rfl
theorem sgl_getD (f : Int → Int) (n : Int) {k i : Nat} (h : i ≤ k) : (pathL f n k).getD i 0 = itr f i n := by
  rw [List.getD_eq_getElem?_getD, pathL_at f n h]; rfl
theorem sumL_sumTo (f : Int → Int) (n : Int) (K : Nat) : ∀ j, j ≤ K + 1 → sumL (pathL f n K) j = sumTo f n j
  | 0, _ => rfl
  | j + 1, h => by rw [sumL, sumTo, sumL_sumTo f n K j (by omega), sgl_getD f n (by omega)]
theorem run_at9 (w : World) (s : ByteArray) (k : Nat) (hk : k < s.size) : (Instr.index 9 (.string s) (.int .i64 (k : Int))).run Try.prog w = .ok (.int .u8 (s[k].toNat : Nat)) w := by
  rw [run_index_string w 9 s .i64 k Try.underlying9, dif_pos ⟨by omega, by omega⟩]
  rfl
/-- What is asked of the path. -/
structure SgK (t p n k A : Int) (xs : List Int) (sg : ByteArray) (od : Nat) (P1 P2 L1 L2 s1 : Int) (se : Bool) (K : Nat) (a : Nat → Int) (U V : Nat) : Prop where
  hk : k = K
  hK : K ≤ 200
  hlen : xs.length = K + 1
  hx : ∀ i, i ≤ K → xs.getD i 0 = a i
  a0 : a 0 = n
  aK : a K = A
  bd : ∀ i, i ≤ K → -1000000000000 ≤ a i ∧ a i ≤ 1000000000000
  pU : P2 = U
  uK : U ≤ K
  aU : a U = P1
  pm : ∀ i, i ≤ K → a i ≤ P1
  pf : ∀ i, i < U → a i ≠ P1
  lV : L2 = V
  vK : V ≤ K
  aV : a V = L1
  lm : ∀ i, i ≤ K → L1 ≤ a i
  lf : ∀ i, i < V → a i ≠ L1
  sz : sg.size = K
  sgn : ∀ i, i < K → ∀ w, (Instr.index 9 (.string sg) (.int .i64 (i : Int))).run Try.prog w = .ok (.int .u8 ((if oddB (a i) = true then 111 else 101 : Nat) : Int)) w
  cnt : od = oda a K
  od : ∀ i, i < K → oddB (a i) = true → a (i + 1) = t * a i + p
  ev : ∀ i, i < K → oddB (a i) = false → 2 * a (i + 1) = a i
  tp : 1 ≤ t ∧ t ≤ 9 ∧ -9 ≤ p ∧ p ≤ 9
  next : ∀ i, i < K → ∀ w, Calls Try.prog 23 #[.agg #[.int .i64 t, .int .i64 p], .int .i64 (a i)] w fun e w' => e = .returned (.tuple #[.int .i64 (a (i + 1)), .bool true]) ∧ Below w.heap.size w w'
  sto : ∃ J : Nat, J ≤ K ∧ a J = A ∧ ∀ w, Calls Try.prog 25 #[.agg #[.int .i64 t, .int .i64 p], .int .i64 n, .int .i64 A] w fun e w' => e = .returned (.tuple #[.int .i64 (J : Int), .bool true]) ∧ Below w.heap.size w w'
  neg : ∀ w, Calls Try.prog 26 #[.agg #[.int .i64 t, .int .i64 p]] w fun e w' => e = .returned (.tuple #[.agg #[.int .i64 t, .int .i64 (-p)], .bool true]) ∧ Below w.heap.size w w'
  back : ∀ w, Calls Try.prog 6 #[.agg #[.int .i64 t, .int .i64 (-p)], .int .i64 (-n), .int .i64 (K : Int)] w fun e w' => e = .returned (.tuple #[.int .i64 (-A), .bool true]) ∧ Below w.heap.size w w'
  sum : se = true → sumL xs xs.length = s1
  xb : ∀ x ∈ xs, -1000000000000 ≤ x ∧ x ≤ 1000000000000
theorem sg_facts {t p n k A : Int} {b : Bool} {xs : List Int} {ob : Bool} {sg : ByteArray} {od : Nat} {P1 P2 L1 L2 s1 : Int} {se : Bool} (h : SgF t p n k A b xs ob sg od P1 P2 L1 L2 s1 se) (ho : ob = true) :
    ∃ K a U V, SgK t p n k A xs sg od P1 P2 L1 L2 s1 se K a U V := by
  obtain ⟨rfl, rfl, rfl, rfl, rfl, rfl, rfl, rfl, rfl, rfl, rfl, rfl⟩ := h
  have hp := ho
  simp only [pofB, Bool.and_eq_true, decide_eq_true_eq] at hp
  obtain ⟨hb, hk2⟩ := hp
  obtain ⟨K, rfl, hK, hg, hn, hall, hask⟩ := aft_yes hb
  have hxs : pofL t p n (K : Int) = pathL (nx t p) n K := by rw [pofL, if_pos ho]; rfl
  have hA : (aft t p (nx t p) n (K : Int)).1 = itr (nx t p) K n := aft_ok hb
  have hbd : ∀ i, i ≤ K → -1000000000000 ≤ itr (nx t p) i n ∧ itr (nx t p) i n ≤ 1000000000000 := fun i hi => numB_iff.1 (allB_at (by omega) hall)
  have hodd : odd t p n (K : Int) = ods (nx t p) n K := by rw [odd, if_pos hb]; rfl
  have hsig : sig t p n (K : Int) = bytesOf (sgL (nx t p) n K) := by rw [sig, if_pos hb]; rfl
  have hpk : ∀ s, pk s t p n (K : Int) = (best s (way t p n) K, (far s (way t p n) K : Int), true) := fun s => by rw [pk, if_pos hb]; rfl
  have hgg := goodB_iff.1 hg
  have hst : ∀ i, i < K → aft t p (nx t p) (itr (nx t p) i n) 1 = (itr (nx t p) (i + 1) n, true) := fun i hi => by
    rw [aft_one hg (numB_iff.2 (hbd i (by omega))), ← itr_succ (nx t p) i n, numB_iff.2 (hbd (i + 1) (by omega))]
    rfl
  obtain ⟨J, hJ, hsto, hJv⟩ := sto_yes (t := t) (p := p) (n := n) (K := K) hg (by omega) hall
  obtain ⟨f1, f2⟩ := far_best true (way t p n) K
  obtain ⟨g1, g2⟩ := far_best false (way t p n) K
  refine ⟨K, way t p n, far true (way t p n) K, far false (way t p n) K, rfl, by omega, by rw [hxs, pathL_length], fun i hi => by rw [hxs, sgl_getD _ _ hi]; rfl, rfl, hA.symm, hbd, by rw [hpk], far_le _ _ _, by rw [hpk]; rfl, fun i hi => ?_, fun i hi => by rw [hpk]; exact far_first true _ _ _ hi, by rw [hpk], far_le _ _ _, by rw [hpk]; rfl, fun i hi => ?_, fun i hi => by rw [hpk]; exact far_first false _ _ _ hi, ?_, fun i hi w => ?_, ?_, fun i hi ho => ?_, fun i hi ho => ?_, ⟨hgg.1, hgg.2.1, hgg.2.2.2.1, hgg.2.2.2.2.1⟩, fun i hi w => ?_, ⟨J, hJ, by rw [hA]; exact hJv, fun w => ?_⟩, fun w => ?_, fun w => ?_, fun hse => ?_, fun x hx => ?_⟩
  · have := f1 i hi
    rw [hpk]
    simp [bet] at this
    exact this
  · have := g1 i hi
    rw [hpk]
    simp [bet] at this
    exact this
  · rw [hsig]
    show (sgL (nx t p) n K).toArray.size = K
    simp [sgL_length]
  · have hs : (sig t p n (K : Int)).size = K := by
      rw [hsig]
      show (sgL (nx t p) n K).toArray.size = K
      simp [sgL_length]
    rw [run_at9 w _ i (by omega)]
    have e : (sig t p n (K : Int))[i]'(by omega) = Go.Proofs.Ytebbafapcknllaa.sgn (itr (nx t p) i n) := by
      have e1 : ∀ (s : ByteArray) (hi2 : i < s.size), s = bytesOf (sgL (nx t p) n K) → s[i] = Go.Proofs.Ytebbafapcknllaa.sgn (itr (nx t p) i n) := by
        rintro s hi2 rfl
        show (sgL (nx t p) n K).toArray[i]'_ = _
        simp [sgL]
      exact e1 _ _ hsig
    rw [e]
    unfold Go.Proofs.Ytebbafapcknllaa.sgn
    have e2 : (if oddB (itr (nx t p) i n) = true then (111 : UInt8) else 101).toNat = (if oddB (way t p n i) = true then 111 else 101 : Nat) := by
      show _ = (if oddB (itr (nx t p) i n) = true then 111 else 101 : Nat)
      split <;> rfl
    rw [e2]
  · rw [hodd, ← oda_ods]; rfl
  · have := nx_od (t := t) (p := p) ho
    show itr (nx t p) (i + 1) n = _
    rw [itr_succ]
    exact this
  · have ho2 : oddB (itr (nx t p) i n) = false := ho
    have := nx_ev (t := t) (p := p) ho2
    show 2 * itr (nx t p) (i + 1) n = itr (nx t p) i n
    rw [itr_succ, this.1]
    exact this.2
  · have c := iNextNumber t p (itr (nx t p) i n) w
    rw [hst i hi] at c
    exact c
  · have c := iStepsTo t p n (itr (nx t p) K n) w
    rw [hsto] at c
    rw [hA]
    exact c
  · have c := iNegativeMap t p w
    have hn2 : Go.Proofs.Ytebbafapcknllaa.neg t p = (t, -p, true) := by rw [Go.Proofs.Ytebbafapcknllaa.neg, if_pos hg]
    rw [hn2] at c
    exact c
  · have c := iNumberAfter t (-p) (-n) (K : Int) w
    rw [aft_neg, hb] at c
    exact c
  · unfold som at hse ⊢
    split at hse
    · rename_i hh
      rw [if_pos hh, hxs, pathL_length, sumL_sumTo _ _ _ _ (Nat.le_refl _)]
      rfl
    · cases hse
  · rw [hxs] at hx
    unfold pathL at hx
    rw [List.mem_map] at hx
    obtain ⟨i, hi, rfl⟩ := hx
    exact hbd i (by simpa using Nat.lt_succ_iff.1 (List.mem_range.1 hi))
end Go.Proofs.Ytebbafapcknllaa
