/-
  THE LAW 'WordsAroundOfAll': turns and counts of primitive words, as facts for its walk.
-/
import Derived.Test.YtnhpoefhcngoaaaDoorWaF
import Derived.Test.YtnhpoefhcngoaaaDoorWaS
namespace Go.Proofs.YtnhpoefhcngoaaaDoor
open Go.RowKit
set_option linter.unusedVariables false

structure WaT (T U V : ByteArray) (k : Int) : Prop where
  ex : ∃ n j m : Nat, T.size = n ∧ k = j ∧ j < n ∧ n ≤ 10 ∧ ((n : Int) - (j : Int)).tmod n = (m : Int) ∧ (∀ W, Calls Tryd.prog 18 #[.string U] W fun e w' => e = .returned (.tuple #[.string V, .bool true]) ∧ Below W.heap.size W w') ∧ (∀ W, Calls Tryd.prog 11 #[.string U, .int .i64 (m : Int)] W fun e w' => e = .returned (.tuple #[.string T, .bool true]) ∧ Below W.heap.size W w')
  le : Op.bytesLess V.toList T.toList = true ∨ (V.toList == T.toList) = true
structure WaP (z o many : Int) : Prop where
  z1 : 1 ≤ z
  z2 : z ≤ 10
  o1 : 0 ≤ o
  o2 : o ≤ z
  c : ∀ W, TabP W → Calls Tryd.prog 22 #[.int .i64 z, .int .i64 (z - o)] W fun e w' => e = .returned (.tuple #[.int .i64 many, .bool true]) ∧ Below W.heap.size W w'
theorem wa_turned {T : ByteArray} {k : Int} (h : (twn T k).2 = true) : WaT T (twn T k).1 (ltn T).1 k := by
  unfold twn at h
  split at h
  · rename_i hh
    obtain ⟨ht, hk0, hk1⟩ := hh
    obtain ⟨h1, h10, hs⟩ := turnB_iff.1 ht
    have hlen : T.data.toList.length = T.size := rfl
    obtain ⟨j, rfl⟩ : ∃ j : Nat, k = j := ⟨k.toNat, by omega⟩
    have hj : j < T.size := by omega
    have htw : twn T (j : Int) = (bts (rotL T.data.toList j), true) := by rw [twn, if_pos ⟨ht, hk0, hk1⟩]; rfl
    have hlt : ltn T = (bts (leastT T.data.toList), true) := by rw [ltn, if_pos ht]
    have hz : (bts (rotL T.data.toList j)).size = T.size := by rw [bts_size, rotL_length, hlen]
    have ht2 : turnB (bts (rotL T.data.toList j)) = true := turnB_iff.2 ⟨by omega, by omega, by rw [bts_list]; exact rotL_signs hs _⟩
    have hm : (T.size - j) % T.size < T.size := Nat.mod_lt _ (by omega)
    refine ⟨⟨T.size, j, (T.size - j) % T.size, rfl, rfl, hj, h10, ?_, fun W => ?_, fun W => ?_⟩, ?_⟩
    · rw [Int.tmod_eq_emod_of_nonneg (by omega)]
      have e : (T.size : Int) - (j : Int) = ((T.size - j : Nat) : Int) := by omega
      rw [e]
      first | exact (Int.natCast_emod _ _).symm | exact (Int.ofNat_emod _ _).symm
    · have c := iLeastTurn (bts (rotL T.data.toList j)) W
      have e : ltn (bts (rotL T.data.toList j)) = (bts (leastT T.data.toList), true) := by rw [ltn, if_pos ht2, bts_list, least_turn _ (by omega)]
      rw [e] at c
      rw [htw, hlt]
      exact c
    · have c := iTurnWord (bts (rotL T.data.toList j)) (((T.size - j) % T.size : Nat) : Int) W
      have e : twn (bts (rotL T.data.toList j)) (((T.size - j) % T.size : Nat) : Int) = (T, true) := by
        rw [twn, if_pos ⟨ht2, by omega, by rw [hz]; omega⟩, bts_list, Int.toNat_natCast, ← hlen, turn_back _ (by omega)]
        rfl
      rw [e] at c
      rw [htw]
      exact c
    · rw [hlt]
      have hle := least_le T.data.toList
      by_cases h5 : leastT T.data.toList < T.data.toList
      · refine .inl ?_
        simp [Proofs.bytesLess_eq, Lib.toList_data, bts_list]
        exact h5
      · have h6 : leastT T.data.toList = T.data.toList := List.le_antisymm hle (List.not_lt.1 h5)
        refine .inr ?_
        rw [h6, ← bts_eq]
        exact beq_self_eq_true _
  · cases h
theorem wa_prim {z o : Int} (h : askP z o = true) : WaP z o (cpA z o) := by
  obtain ⟨⟨z1, z2⟩, o1, o2⟩ := askP_iff.1 h
  refine ⟨z1, z2, o1, o2, fun W hW => ?_⟩
  have h2 : askP z (z - o) = true := askP_iff.2 ⟨⟨z1, z2⟩, by omega, by omega⟩
  have c := iCountPrimitive z (z - o) W hW.1 hW.2
  rw [h2] at c
  obtain ⟨L, rfl⟩ : ∃ L : Nat, z = L := ⟨z.toNat, by omega⟩
  obtain ⟨q, rfl⟩ : ∃ q : Nat, o = q := ⟨o.toNat, by omega⟩
  have e : cpA (L : Int) ((L : Int) - (q : Int)) = cpA (L : Int) (q : Int) := by
    rw [cpA_yes h, cpA_yes h2]
    have := prim_sym ⟨L, by omega⟩ ⟨q, by omega⟩ (by show q ≤ L; omega)
    dsimp only at this
    unfold cpX
    rw [← selX_filter, ← selX_filter, this]
  rw [e] at c
  exact c
end Go.Proofs.YtnhpoefhcngoaaaDoor
