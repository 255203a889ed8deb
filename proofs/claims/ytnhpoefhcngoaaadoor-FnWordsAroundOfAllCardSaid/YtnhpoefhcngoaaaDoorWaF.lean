/-
  THE LAW 'WordsAroundOfAll': what the answers about a word have to do with each other, for its walk.
-/
import Derived.Test.YtnhpoefhcngoaaaDoorWaM
import Derived.Test.YtnhpoefhcngoaaaDoorDoes
import Derived.Test.YtnhpoefhcngoaaaDoorTurnW
import Derived.Test.YtnhpoefhcngoaaaDoorShapeAnd
import Derived.Test.YtnhpoefhcngoaaaDoorNum
import Derived.Test.YtnhpoefhcngoaaaDoorLawsA
import Derived.Deep.CutRange
namespace Go.Proofs.YtnhpoefhcngoaaaDoor
open Go.RowKit
set_option linter.unusedVariables false

/-- A map in a block. -/
structure Two9 (W : World) (b : Nat) (t p : Int) : Prop where
  c0 : W.cell? ⟨b, 0, none⟩ = some (.int .i64 t)
  c1 : W.cell? ⟨b, 1, none⟩ = some (.int .i64 p)
  lt : b < W.heap.size
theorem Two9.kept {W W' : World} {b : Nat} {t p : Int} (h : Two9 W b t p) (hb : Below W.heap.size W W') : Two9 W' b t p := ⟨(hb.cell (p := ⟨b, 0, none⟩) h.lt).trans h.c0, (hb.cell (p := ⟨b, 1, none⟩) h.lt).trans h.c1, Nat.lt_of_lt_of_le h.lt hb.size⟩
theorem Two9.new (W : World) (t p : Int) (T : TypeId) : Two9 (W.alloc (.cells #[.int .i64 t, .int .i64 p] T)) W.heap.size t p := ⟨by go_simp, by go_simp, by simp⟩
theorem below_newW (w : World) (X : Obj) : Below w.heap.size w (w.alloc X) := (Below.refl w.heap.size w).alloc (Nat.le_refl _) X
/-- The region with which a text begins. -/
def firstReg : Code → Option Nat
  | .region n _ _ => some n
  | .seq a _ => firstReg a
  | _ => none
/-- What follows in a sequence, from a region on. -/
def restFrom (n : Nat) : Code → Option Code
  | .seq a b => if firstReg b = some n then some b else (match restFrom n a with
    | some c => some c
    | none => restFrom n b)
  | .block _ c => restFrom n c
  | .scope c => restFrom n c
  | _ => none
theorem pow_small {t : Int} (h1 : 1 ≤ t) (h9 : t ≤ 9) : ∀ {k : Nat}, k ≤ 10 → 1 ≤ t ^ k ∧ t ^ k ≤ 9 ^ k
  | 0, _ => by simp
  | k + 1, h => by
    obtain ⟨a, b⟩ := pow_small h1 h9 (k := k) (by omega)
    rw [Int.pow_succ, Int.pow_succ]
    refine ⟨?_, Int.mul_le_mul b h9 (by omega) (by omega)⟩
    have := Int.mul_le_mul a h1 (by omega) (by omega)
    omega
theorem pow_b {t : Int} (h1 : 1 ≤ t) (h9 : t ≤ 9) {k : Nat} (h : k ≤ 10) : 1 ≤ t ^ k ∧ t ^ k ≤ 3486784401 := by
  have a := pow_small h1 h9 h
  have b := pow9_10 h
  omega
structure WaK (t p : Int) (s : ByteArray) (pp q d num den : Int) (is : Bool) (L o : Nat) : Prop where
  hL : s.size = L
  h1 : 1 ≤ L
  h10 : L ≤ 10
  sg : Signs s.data.toList
  ho : cnt s.data.toList = o
  oL : o ≤ L
  t1 : 1 ≤ t
  t9 : t ≤ 9
  hp : pp = t ^ o
  hd : d = 2 ^ L
  den1 : 1 ≤ den
  eq : q * den = num * (d - pp)
  one : is = decide (den = 1)
  nb : -6973568802 ≤ num ∧ num ≤ 6973568802
  after : is = true → ∃ (a : Int) (f : Bool), (f = true → a = num) ∧ ∀ W, Calls Tryd.prog 10 #[.agg #[.int .i64 t, .int .i64 p], .int .i64 num, .int .i64 (L : Int)] W fun e w' => e = .returned (.tuple #[.int .i64 a, .bool f]) ∧ Below W.heap.size W w'
  turn : is = true → ∃ s2 : ByteArray, (∀ W, Calls Tryd.prog 11 #[.string s, .int .i64 ((L : Int) - 1)] W fun e w' => e = .returned (.tuple #[.string s2, .bool true]) ∧ Below W.heap.size W w') ∧ ∀ W, Calls Tryd.prog 8 #[.agg #[.int .i64 t, .int .i64 p], .string s2] W fun e w' => e = .returned (.tuple #[.bool true, .bool true]) ∧ Below W.heap.size W w'
  neg : ∀ W, Calls Tryd.prog 12 #[.agg #[.int .i64 t, .int .i64 p]] W fun e w' => e = .returned (.tuple #[.agg #[.int .i64 t, .int .i64 (-p)], .bool true]) ∧ Below W.heap.size W w'
  mir : ∀ W, Calls Tryd.prog 6 #[.agg #[.int .i64 t, .int .i64 (-p)], .string s] W fun e w' => e = .returned (.tuple #[.int .i64 (-num), .int .i64 den, .bool true]) ∧ Below W.heap.size W w'
theorem neg_goodW {t p : Int} (hg : goodB t p = true) : goodB t (-p) = true := by
  have := goodB_iff.1 hg
  exact goodB_iff.2 (by omega)
theorem wa_facts {t p : Int} {s : ByteArray} (ha : askT t p s = true) :
    WaK t p s (wdo t p s).1.1 (wdo t p s).1.2.1 (wdo t p s).1.2.2 (now t p s).1 (now t p s).2 (cwB t p s) s.size (cnt s.data.toList) := by
  have hga : goodB t p = true ∧ turnB s = true := by unfold askT at ha; rw [Bool.and_eq_true] at ha; exact ha
  obtain ⟨hg, ht⟩ := hga
  obtain ⟨h1, h10, hs⟩ := turnB_iff.1 ht
  obtain ⟨g1, g2, g3, g4, g5, g6⟩ := goodB_iff.1 hg
  have hw : wdo t p s = (doesL t p s.data.toList, true) := by rw [wdo, if_pos ⟨hg, ht⟩]
  have hn : now t p s = numW t p s.data.toList := by rw [now, if_pos ⟨hg, ht⟩]
  have hlen : s.data.toList.length = s.size := rfl
  have hl1 : 1 ≤ s.data.toList.length := by omega
  have hc := cnt_le s.data.toList
  have hd2 : (doesL t p s.data.toList).2.2 = 2 ^ s.size := by rw [← hlen]; exact (doesR_bound hg s.data.toList).2.2.2.1
  refine ⟨rfl, h1, h10, hs, rfl, by omega, g1, g2, by rw [hw]; exact wa_pow t p _, by rw [hw]; exact hd2, by rw [hn]; exact wa_den hg hl1, by rw [hw, hn]; exact wa_eq hg hl1, ?_, by rw [hn]; exact numW_b hg (by omega), fun h => ?_, fun h => ?_, fun W => ?_, fun W => ?_⟩
  · rfl
  · rw [hn]
    have h2 : (numW t p s.data.toList).2 = 1 := by unfold cwB at h; rw [hn] at h; exact of_decide_eq_true h
    refine ⟨_, _, fun hf => ?_, fun W => iShortAfter t p (numW t p s.data.toList).1 (s.size : Int) W⟩
    have hcw := (cyc_word hg hs hl1 h2).2
    rw [hlen] at hcw
    unfold aft at hf ⊢
    split at hf
    · rename_i hh
      rw [if_pos hh]
      simpa using hcw
    · cases hf
  · have h2 : (numW t p s.data.toList).2 = 1 := by unfold cwB at h; rw [hn] at h; exact of_decide_eq_true h
    obtain ⟨a, b, e1, e2⟩ := turn_last s.data.toList hl1
    have hk : ((s.size : Int) - 1).toNat = s.data.toList.length - 1 := by omega
    have htw : twn s ((s.size : Int) - 1) = (bts (rotL s.data.toList (s.data.toList.length - 1)), true) := by
      rw [twn, if_pos ⟨ht, by omega, by omega⟩, hk]
    refine ⟨bts (rotL s.data.toList (s.data.toList.length - 1)), fun W => ?_, fun W => ?_⟩
    · have c := iTurnWord s ((s.size : Int) - 1) W
      rw [htw] at c
      exact c
    · have hz : (bts (rotL s.data.toList (s.data.toList.length - 1))).size = s.size := by rw [bts_size, rotL_length, hlen]
      have ht2 : turnB (bts (rotL s.data.toList (s.data.toList.length - 1))) = true := turnB_iff.2 ⟨by omega, by omega, by rw [bts_list]; exact rotL_signs hs _⟩
      have hn2 : now t p (bts (rotL s.data.toList (s.data.toList.length - 1))) = numW t p (rotL s.data.toList (s.data.toList.length - 1)) := by rw [now, if_pos ⟨hg, ht2⟩, bts_list]
      have ha2 : askT t p (bts (rotL s.data.toList (s.data.toList.length - 1))) = true := by unfold askT; rw [hg, ht2]; rfl
      have hcw : cwB t p (bts (rotL s.data.toList (s.data.toList.length - 1))) = true := by
        unfold cwB
        rw [hn2, e2]
        refine decide_eq_true (wa_turn hg (by rw [← e1]; exact hs) (by rw [← e1]; exact hl1) (by rw [← e1]; exact h2))
      have c := iIsCycleWord t p (bts (rotL s.data.toList (s.data.toList.length - 1))) W
      rw [hcw, ha2] at c
      exact c
  · have c := iNegativeMap t p W
    have hn2 : neg t p = (t, -p, true) := by rw [neg, if_pos hg]
    rw [hn2] at c
    exact c
  · have c := iNumberOfWord t (-p) s W
    have ha2 : askT t (-p) s = true := by unfold askT; rw [neg_goodW hg, ht]; rfl
    have hn2 : now t (-p) s = (-(numW t p s.data.toList).1, (numW t p s.data.toList).2) := by rw [now, if_pos ⟨neg_goodW hg, ht⟩, wa_mirror]
    rw [ha2, hn2] at c
    rw [hn]
    exact c
end Go.Proofs.YtnhpoefhcngoaaaDoor
