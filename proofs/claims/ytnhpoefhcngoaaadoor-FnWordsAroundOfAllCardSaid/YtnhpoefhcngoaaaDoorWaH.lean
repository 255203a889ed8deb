/-
  THE LAW 'WordsAroundOfAll': the list of cycle words, as facts for its walk.
-/
import Derived.Test.YtnhpoefhcngoaaaDoorWaG
namespace Go.Proofs.YtnhpoefhcngoaaaDoor
open Go.RowKit
set_option linter.unusedVariables false

theorem pw_step : ∀ L : Fin 11, ∀ x : Fin 1024, x.val + 1 < 2 ^ L.val → pw x.val L.val < pw (x.val + 1) L.val := by decide +kernel
theorem pw_lt {L : Nat} (hL : L ≤ 10) {x : Nat} : ∀ {y : Nat}, x < y → y < 2 ^ L → pw x L < pw y L
  | 0, h, _ => absurd h (Nat.not_lt_zero _)
  | y + 1, h, hy => by
    have hp : 2 ^ L ≤ 1024 := pow2_1024 hL
    have hs := pw_step ⟨L, by omega⟩ ⟨y, by omega⟩ hy
    by_cases e : x = y
    · subst e; exact hs
    · exact List.lt_trans (pw_lt hL (x := x) (y := y) (by omega) (by omega)) hs
theorem selX_sorted {f : List UInt8 → Bool} {L : Nat} (hL : L ≤ 10) : (selX f L (2 ^ L)).Pairwise fun a b => a.data.toList < b.data.toList := by
  unfold selX
  rw [List.pairwise_map]
  have h0 : ((List.range (2 ^ L)).filter fun x => f (pw x L)).Pairwise (· < ·) := List.Pairwise.filter _ List.pairwise_lt_range
  have h1 : ∀ x ∈ (List.range (2 ^ L)).filter fun x => f (pw x L), x < 2 ^ L := fun x hx => List.mem_range.1 (List.mem_filter.1 hx).1
  exact (List.pairwise_and_iff.2 ⟨h0, List.pairwise_of_forall_mem_list fun a ha b hb => h1 b hb⟩).imp fun {a b} ⟨h2, h3⟩ => by rw [bts_list, bts_list]; exact pw_lt hL h2 h3
structure WaW (tv pv len : Int) (aX : Option Addr) (n l : Nat) (x : Nat → ByteArray) (wq : World) : Prop where
  hl : len = l
  n1 : n ≤ 1024
  sz : ∀ i, i < n → (x i).size = l
  is : ∀ i, i < n → ∀ W, Calls Tryd.prog 8 #[.agg #[.int .i64 tv, .int .i64 pv], .string (x i)] W fun e w' => e = .returned (.tuple #[.bool true, .bool true]) ∧ Below W.heap.size W w'
  lt : ∀ i, i < n → ∀ W, Calls Tryd.prog 18 #[.string (x i)] W fun e w' => e = .returned (.tuple #[.string (x i), .bool true]) ∧ Below W.heap.size W w'
  pr : ∀ i, i < n → ∀ W, TabP W → Calls Tryd.prog 20 #[.string (x i)] W fun e w' => e = .returned (.tuple #[.bool true, .bool true]) ∧ Below W.heap.size W w'
  up : ∀ i, i + 1 < n → Op.bytesLess (x i).toList (x (i + 1)).toList = true
  cells : ∀ i, i < n → ∃ g, aX = some ⟨g, 0, none⟩ ∧ g < wq.heap.size ∧ wq.cell? ⟨g, i, none⟩ = some (.string (x i))
theorem wa_words {tv pv len : Int} {aX : Option Addr} {cX : Nat} {wq : World} (ha : askK tv pv len = true) (hX : StrsIn wq (.slice aX (cwA tv pv len).length cX) (cwA tv pv len)) :
    ∃ (l : Nat) (x : Nat → ByteArray), WaW tv pv len aX (cwA tv pv len).length l x wq := by
  have h0 : goodB tv pv = true ∧ 1 ≤ len ∧ len ≤ 10 := by
    unfold askK inB at ha
    rw [Bool.and_eq_true, decide_eq_true_eq] at ha
    exact ha
  obtain ⟨hg, h1, h10⟩ := h0
  obtain ⟨L, rfl⟩ : ∃ L : Nat, len = L := ⟨len.toNat, by omega⟩
  have hxs : cwA tv pv (L : Int) = selX (fun l => ftB l && cwl tv pv l) L (2 ^ L) := by rw [cwA, if_pos ha]; rfl
  have hlen : (cwA tv pv (L : Int)).length ≤ 1024 := by
    rw [hxs]
    have a := selX_le (fun l => ftB l && cwl tv pv l) L (2 ^ L)
    have b := pow2_1024 (L := L) (by omega)
    omega
  have hmem : ∀ i, i < (cwA tv pv (L : Int)).length → ∃ y, y < 2 ^ L ∧ (cwA tv pv (L : Int)).getD i ⟨#[]⟩ = bts (pw y L) ∧ primB (pw y L) = true ∧ leastT (pw y L) = pw y L ∧ (numW tv pv (pw y L)).2 = 1 := fun i hi => by
    have hm : (cwA tv pv (L : Int)).getD i ⟨#[]⟩ ∈ cwA tv pv (L : Int) := by
      rw [List.getD_eq_getElem?_getD, List.getElem?_eq_getElem hi]
      exact List.getElem_mem _
    obtain ⟨y, h2, h3, h4⟩ := selX_mem (by rw [hxs] at hm; exact hm)
    rw [hxs]
    rw [Bool.and_eq_true] at h4
    obtain ⟨h5, h6⟩ := h4
    unfold ftB at h5
    rw [Bool.and_eq_true] at h5
    exact ⟨y, h2, h3, h5.1, eq_of_beq h5.2, of_decide_eq_true h6⟩
  have hturn : ∀ y, turnB (bts (pw y L)) = true := fun y => turnB_iff.2 ⟨by rw [bts_size, pw_length]; omega, by rw [bts_size, pw_length]; omega, by rw [bts_list]; exact pw_signs y L⟩
  refine ⟨L, fun i => (cwA tv pv (L : Int)).getD i ⟨#[]⟩, rfl, hlen, fun i hi => ?_, fun i hi W => ?_, fun i hi W => ?_, fun i hi W hW => ?_, fun i hi => ?_, fun i hi => ?_⟩
  · obtain ⟨y, _, e, _⟩ := hmem i hi
    try dsimp only
    rw [e, bts_size, pw_length]
  · obtain ⟨y, _, e, _, _, hn⟩ := hmem i hi
    try dsimp only
    rw [e]
    have c := iIsCycleWord tv pv (bts (pw y L)) W
    have ha2 : askT tv pv (bts (pw y L)) = true := by unfold askT; rw [hg, hturn]; rfl
    have hn2 : now tv pv (bts (pw y L)) = numW tv pv (pw y L) := by rw [now, if_pos ⟨hg, hturn y⟩, bts_list]
    have hc : cwB tv pv (bts (pw y L)) = true := by unfold cwB; rw [hn2]; exact decide_eq_true hn
    rw [ha2, hc] at c
    exact c
  · obtain ⟨y, _, e, _, hl, _⟩ := hmem i hi
    try dsimp only
    rw [e]
    have c := iLeastTurn (bts (pw y L)) W
    have h2 : ltn (bts (pw y L)) = (bts (pw y L), true) := by rw [ltn, if_pos (hturn y), bts_list, hl]
    rw [h2] at c
    exact c
  · obtain ⟨y, _, e, hp, _, _⟩ := hmem i hi
    try dsimp only
    rw [e]
    have c := iIsPrimitive (bts (pw y L)) W hW.2
    have h2 : ipB (bts (pw y L)) = true := by unfold ipB; rw [hturn, bts_list, hp]; rfl
    rw [h2, hturn] at c
    exact c
  · have hs : (cwA tv pv (L : Int)).Pairwise fun a b => a.data.toList < b.data.toList := by rw [hxs]; exact selX_sorted (by omega)
    have h2 := List.pairwise_iff_getElem.1 hs i (i + 1) (by omega) hi (by omega)
    simp only [List.getD_eq_getElem?_getD]
    rw [List.getElem?_eq_getElem (by omega), List.getElem?_eq_getElem hi]
    simp only [Option.getD_some]
    rw [Proofs.bytesLess_eq, Lib.toList_data, Lib.toList_data]
    exact decide_eq_true h2
  · obtain ⟨a, c, e, hx⟩ := hX
    injection e with e1 e2 e3
    subst e1
    obtain ⟨g, h2, h3, h4⟩ := hx (by intro e; rw [e] at hi; simp at hi)
    exact ⟨g, h2, h3, (h4 i hi).1⟩
end Go.Proofs.YtnhpoefhcngoaaaDoor
