/-
  'mpPath' of the model: the path of so many steps, in a slice of its own.
  WHAT IS BEHIND SO MANY STEPS: plain lemmas over the leaves.
  'path' of the program: the path of so many steps of a walk.
  A PATH HANDED BACK: where there is one, and where there is none.
  'PathOf' of both, and the walk of its law.
  'SumOfPath' of both.
-/
import Derived.Test.YtgobjobppajkbaaDoorLeafB
import Derived.Test.YtgobjobppajkbaaDoorOwn
import Derived.RangeFuncBox
import Derived.Test.YtgobjobppajkbaaDoorLists
namespace Go.Proofs.YtgobjobppajkbaaDoor
open Go.RowKit
set_option linter.unusedVariables false

/-- The path of k steps: k + 1 numbers. -/
def pathL (f : Int → Int) (n : Int) (k : Nat) : List Int := (List.range (k + 1)).map fun (i : Nat) => itr f i n
theorem pathL_succ (f : Int → Int) (n : Int) (k : Nat) : pathL f n (k + 1) = pathL f n k ++ [itr f (k + 1) n] := by
  simp [pathL, List.range_succ]
theorem pathL_length (f : Int → Int) (n : Int) (k : Nat) : (pathL f n k).length = k + 1 := by simp [pathL]
theorem pathL_at (f : Int → Int) (n : Int) {k j : Nat} (h : j ≤ k) : (pathL f n k)[j]? = some (itr f j n) := by
  rw [pathL, List.getElem?_map, List.getElem?_range (by omega)]; rfl

/-- What a function that makes a path hands back. -/
def RetPath (xs : List Int) (ok : Bool) (w : World) (e : Ending) (w' : World) : Prop :=
  ∃ v, e = .returned (.tuple #[v, .bool ok]) ∧ IntsAt w' w.heap.size v xs ∧ Below w.heap.size w w' ∧ (xs = [] → v = .slice none 0 0)

/-- The path, if all on it are numbers. -/
def pathOr (f : Int → Int) (n : Int) (k : Nat) : List Int := if allB f n (k + 1) = true then pathL f n k else []

end Go.Proofs.YtgobjobppajkbaaDoor

namespace Go.Proofs.YtgobjobppajkbaaDoor
open Go.RowKit
set_option linter.unusedVariables false

/-- What is behind k steps of a kind, and whether it is there. -/
def aft (t p : Int) (f : Int → Int) (n k : Int) : Int × Bool :=
  if askB t p n k = true ∧ allB f n (k.toNat + 1) = true then (itr f k.toNat n, true) else (0, false)

theorem mem_upto {f : Int → Int} {n : Int} {K : Nat} {x : Int × Int} (h : x ∈ upto f n K) : ∃ j : Nat, j < K ∧ x = ((j : Int), itr f j n) := by
  simp only [upto, List.mem_map, List.mem_range] at h
  obtain ⟨j, hj, rfl⟩ := h
  exact ⟨j, hj, rfl⟩
/-- Behind one step. -/
theorem aft_one {t p : Int} {f : Int → Int} {n : Int} (hg : goodB t p = true) (hn : numB n = true) : aft t p f n 1 = (if numB (f n) = true then f n else 0, numB (f n)) := by
  have ha : askB t p n 1 = true := by simp [askB, inB, hg, hn]
  have hl : allB f n ((1 : Int).toNat + 1) = numB (f n) := by
    show allB f n 2 = _
    rw [show (2 : Nat) = 1 + 1 from rfl, allB_succ, allB_succ]
    simp [allB, itr, hn]
  unfold aft
  rw [ha, hl]
  by_cases h : numB (f n) = true
  · simp [h, itr]
  · simp [h]
theorem aft_not {t p : Int} {f : Int → Int} {n k : Int} (h : goodB t p = false ∨ numB n = false) : aft t p f n k = (0, false) := by
  unfold aft
  rw [if_neg]
  rintro ⟨ha, _⟩
  simp only [askB, Bool.and_eq_true] at ha
  rcases h with h | h <;> simp [h] at ha

/-- A part of what a walk gives that ends at k: its numbers are the path of k steps. -/
theorem aft_of_prefix {t p : Int} {f : Int → Int} {n k v : Int} {pre : List (Int × Int)} (hp : (pre ++ [(k, v)]) <+: seqOf t p f n) :
    (aft t p f n k).2 = true ∧ (pre ++ [(k, v)]).map (·.2) = (List.range (k.toNat + 1)).map (fun (i : Nat) => itr f i n) := by
  unfold seqOf at hp
  split at hp
  · rename_i hg
    obtain ⟨he, hl⟩ := prefix_upto hp
    have hlen : (pre ++ [(k, v)]).length = pre.length + 1 := by simp
    rw [hlen] at he hl
    have hk : (k, v) = ((pre.length : Int), itr f pre.length n) := by
      rw [upto_succ] at he
      have := List.append_inj_right' he rfl
      simpa using this
    have hk1 : k = (pre.length : Int) := congrArg Prod.fst hk
    have hc := (lt_cnt f 1001 n pre.length).1 (by omega)
    have hn : numB n = true := allB_at (f := f) (n := n) (j := 0) (k := pre.length + 1) (by omega) hc.2
    have ht : k.toNat = pre.length := by omega
    refine ⟨?_, ?_⟩
    · unfold aft
      rw [if_pos ⟨by simp only [askB, inB, Bool.and_eq_true, decide_eq_true_eq]; exact ⟨⟨hg, hn⟩, by omega⟩, by rw [ht]; exact hc.2⟩]
    · rw [he, ht, upto, List.map_map]; rfl
  · obtain ⟨r, hr⟩ := hp
    simp at hr
theorem aft_of_none {t p : Int} {f : Int → Int} {n k : Int} (h : ∀ x ∈ seqOf t p f n, x.1 ≠ k) : (aft t p f n k).2 = false := by
  unfold aft
  split
  · rename_i ha
    exfalso
    obtain ⟨hk, hl⟩ := ha
    simp only [askB, inB, Bool.and_eq_true, decide_eq_true_eq] at hk
    have hlt : k.toNat < cntF f 1001 n := (lt_cnt _ _ _ _).2 ⟨by omega, hl⟩
    refine h ((k.toNat : Int), itr f k.toNat n) ?_ (by dsimp only; omega)
    rw [seqOf, if_pos hk.1.1, upto, List.mem_map]
    exact ⟨k.toNat, by simpa using hlt, rfl⟩
  · rfl
theorem seqOf_length (t p : Int) (f : Int → Int) (n : Int) : (seqOf t p f n).length ≤ 1001 := by
  unfold seqOf
  split
  · rw [upto_length]
    by_cases h : cntF f 1001 n ≤ 1001
    · exact h
    · have := (lt_cnt f 1001 n 1001).1 (by omega)
      omega
  · simp
end Go.Proofs.YtgobjobppajkbaaDoor

namespace Go.Proofs.YtgobjobppajkbaaDoor
open Go.RowKit Go.Shelf
attribute [local go_sem] Oper.semAt_some
set_option linter.unusedVariables false

/-- The cells of a call of 'path': its argument 'steps', its two results, the path so far. -/
def PathCells (B : Nat) (k : Int) (rv ov pv : Value) (W : World) : Prop :=
  W.cell? ⟨B + 1, 0, none⟩ = some (.int .i64 k) ∧ W.cell? ⟨B + 1 + 1, 0, none⟩ = some rv ∧ W.frozen? ⟨B + 1 + 1, 0, none⟩ = false ∧
  W.cell? ⟨B + 1 + 1 + 1, 0, none⟩ = some ov ∧ W.frozen? ⟨B + 1 + 1 + 1, 0, none⟩ = false ∧ W.cell? ⟨B + 1 + 1 + 1 + 1, 0, none⟩ = some pv ∧ W.frozen? ⟨B + 1 + 1 + 1 + 1, 0, none⟩ = false ∧ B + 7 ≤ W.heap.size
theorem PathCells.below {B : Nat} {k : Int} {rv ov pv : Value} {A C : World} (h : PathCells B k rv ov pv A) {N : Nat} (hN : B + 5 ≤ N) (hb : Below N A C) : PathCells B k rv ov pv C := by
  obtain ⟨h1, h2, h3, h4, h5, h6, h7, h8⟩ := h
  refine ⟨(hb.cell (p := ⟨B + 1, 0, none⟩) ?_).trans h1, (hb.cell (p := ⟨B + 1 + 1, 0, none⟩) ?_).trans h2, (hb.frozen (p := ⟨B + 1 + 1, 0, none⟩) ?_).trans h3, (hb.cell (p := ⟨B + 1 + 1 + 1, 0, none⟩) ?_).trans h4, (hb.frozen (p := ⟨B + 1 + 1 + 1, 0, none⟩) ?_).trans h5,
    (hb.cell (p := ⟨B + 1 + 1 + 1 + 1, 0, none⟩) ?_).trans h6, (hb.frozen (p := ⟨B + 1 + 1 + 1 + 1, 0, none⟩) ?_).trans h7, Nat.le_trans h8 hb.size⟩ <;> (dsimp only; omega)
theorem ownsRow_touch {B lo hi : Nat} {e : TypeId} {s : Nat} {v : Value} {n : Nat} {xs : List Value} {A C : World} (h : A.ownsRow B e s v n xs) (ht : Touch lo hi A C) (hh : hi ≤ B) : C.ownsRow B e s v n xs := by
  refine ⟨h.1, ?_⟩
  rcases h.2 with h2 | ⟨g, cap, cur, h1, h2, h3, h4⟩
  · exact .inl h2
  · exact .inr ⟨g, cap, cur, h1, h2, (ht.block g (Array.getElem?_eq_some_iff.1 h3).1 (.inr (by omega))).trans h3, h4⟩
/-- The numbers that have come, as values. -/
def vals (pre : List (Int × Int)) : List Value := pre.map fun x => .int .i64 x.2

theorem vals_snoc (pre : List (Int × Int)) (x : Int × Int) : vals (pre ++ [x]) = vals pre ++ [.int .i64 x.2] := by simp [vals]
/-- The path of k steps, if there is one. -/
def pathIf (t p n k : Int) : List Int := if (aft t p (nx t p) n k).2 = true then pathL (nx t p) n k.toNat else []

end Go.Proofs.YtgobjobppajkbaaDoor

namespace Go.Proofs.YtgobjobppajkbaaDoor
open Go.RowKit
set_option linter.unusedVariables false

/-- A slice that holds the path of K steps. -/
def PathAt (w : World) (base g cap : Nat) (f : Int → Int) (n : Int) (K : Nat) : Prop :=
  w.ownsRow base 3 1 (.slice (some ⟨g, 0, none⟩) (K + 1) cap) (K + 1) ((pathL f n K).map (Value.int .i64))
theorem PathAt.cell {w : World} {base g cap : Nat} {f : Int → Int} {n : Int} {K : Nat} (h : PathAt w base g cap f n K) {j : Nat} (hj : j ≤ K) : w.cell? ⟨g, j, none⟩ = some (.int .i64 (itr f j n)) := by
  have := World.ownsRow.cellAt h j (by omega)
  rw [List.getElem?_map, pathL_at _ _ hj] at this
  exact this
theorem PathAt.kept {w w' : World} {base g cap : Nat} {f : Int → Int} {n : Int} {K : Nat} (h : PathAt w base g cap f n K) (hb : Below w.heap.size w w') : PathAt w' base g cap f n K := ownsRow_kept h hb
theorem PathAt.lt {w : World} {base g cap : Nat} {f : Int → Int} {n : Int} {K : Nat} (h : PathAt w base g cap f n K) : base ≤ g ∧ g < w.heap.size := World.ownsRow.lt h g rfl
theorem PathAt.cap {w : World} {base g cap : Nat} {f : Int → Int} {n : Int} {K : Nat} (h : PathAt w base g cap f n K) : K + 1 ≤ cap ∧ cap ≤ maxLen := by
  rcases h.2 with ⟨h', _⟩ | ⟨g', cap', cur, h', _, _, h1, h2, _⟩
  · simp at h'
  · simp only [Value.slice.injEq] at h'
    obtain ⟨_, _, rfl⟩ := h'
    exact ⟨h1, h2⟩
def YesPath (f : Int → Int) (n : Int) (K : Nat) (w : World) (e : Ending) (w' : World) : Prop :=
  ∃ g cap, e = .returned (.tuple #[.slice (some ⟨g, 0, none⟩) (K + 1) cap, .bool true]) ∧ PathAt w' w.heap.size g cap f n K ∧ Below w.heap.size w w'
theorem RetPath.yes {xs : List Int} {ok : Bool} {w w' : World} {e : Ending} {f : Int → Int} {n : Int} {K : Nat} (h : RetPath xs ok w e w') (hx : xs = pathL f n K) (ho : ok = true) : YesPath f n K w e w' := by
  subst hx ho
  obtain ⟨v, rfl, hrow, hb, _⟩ := h
  rw [IntsAt, pathL_length] at hrow
  obtain ⟨g, cap, rfl⟩ := ownsRow_succ hrow
  exact ⟨g, cap, rfl, hrow, hb⟩
theorem RetPath.no {xs : List Int} {ok : Bool} {w w' : World} {e : Ending} (h : RetPath xs ok w e w') (hx : xs = []) (ho : ok = false) : e = .returned (.tuple #[.slice none 0 0, .bool false]) ∧ Below w.heap.size w w' := by
  obtain ⟨v, rfl, hrow, hb, hn⟩ := h
  rw [hn hx, ho]
  exact ⟨rfl, hb⟩

theorem askB_iff {t p n k : Int} : askB t p n k = true ↔ goodB t p = true ∧ numB n = true ∧ 0 ≤ k ∧ k ≤ 1000 := by
  simp only [askB, inB, Bool.and_eq_true, decide_eq_true_eq, and_assoc]

end Go.Proofs.YtgobjobppajkbaaDoor

namespace Go.Proofs.YtgobjobppajkbaaDoor
open Go.RowKit
set_option linter.unusedVariables false

/-- What PathOf comes to. -/
def pofB (t p n k : Int) : Bool := (aft t p (nx t p) n k).2 && decide (k ≤ 200)
def pofL (t p n k : Int) : List Int := if pofB t p n k = true then pathL (nx t p) n k.toNat else []
theorem pofL_len (t p n k : Int) : (pofL t p n k).length ≤ 1000000000000 := by
  unfold pofL
  split
  · rename_i h
    simp only [pofB, Bool.and_eq_true, decide_eq_true_eq] at h
    rw [pathL_length]; omega
  · simp
theorem aft_two {t p n k : Int} {f : Int → Int} : (aft t p f n k).2 = (askB t p n k && allB f n (k.toNat + 1)) := by
  unfold aft
  by_cases h : askB t p n k = true ∧ allB f n (k.toNat + 1) = true
  · rw [if_pos h, h.1, h.2]; rfl
  · rw [if_neg h]
    by_cases h1 : askB t p n k = true
    · have : allB f n (k.toNat + 1) = false := by simpa using fun x => h ⟨h1, x⟩
      simp [this]
    · simp [h1]

/-- A list handed back, whole: the list, the flag. -/
theorem ret_list {xs : List Int} {ok : Bool} {w w1 w' : World} {v : Value} (hr : IntsAt w' w.heap.size v xs) (hb : Below w.heap.size w w') (hn : xs = [] → v = .slice none 0 0) : RetPath xs ok w (.returned (.tuple #[v, .bool ok])) w' := ⟨v, rfl, hr, hb, hn⟩
theorem ret_nolist {xs : List Int} {ok : Bool} {w w' : World} (hx : xs = []) (ho : ok = false) (hb : Below w.heap.size w w') : RetPath xs ok w (.returned (.tuple #[.slice none 0 0, .bool false])) w' := by
  subst hx ho
  exact ⟨_, rfl, World.ownsRow_nil _ _ _ _, hb, fun _ => rfl⟩

end Go.Proofs.YtgobjobppajkbaaDoor

namespace Go.Proofs.YtgobjobppajkbaaDoor
open Go.RowKit
set_option linter.unusedVariables false

/-- The sum of the first k numbers of a way. -/
def sumTo (f : Int → Int) (n : Int) : Nat → Int
  | 0 => 0
  | k + 1 => sumTo f n k + itr f k n
theorem sumTo_bound {f : Int → Int} {n : Int} {k : Nat} (h : allB f n k = true) : -(1000000000000 * (k : Int)) ≤ sumTo f n k ∧ sumTo f n k ≤ 1000000000000 * (k : Int) := by
  induction k with
  | zero => simp [sumTo]
  | succ k ih =>
    have hv := numB_iff.1 (allB_at (Nat.lt_succ_self k) h)
    have := ih (allB_le (Nat.le_succ k) h)
    rw [sumTo]
    omega
/-- What SumOfPath comes to. -/
def som (t p n k : Int) : Int × Bool := if (aft t p (nx t p) n k).2 = true ∧ numB (sumTo (nx t p) n (k.toNat + 1)) = true then (sumTo (nx t p) n (k.toNat + 1), true) else (0, false)
theorem aft_yes {t p n k : Int} {f : Int → Int} (h : (aft t p f n k).2 = true) : ∃ K : Nat, k = K ∧ K ≤ 1000 ∧ goodB t p = true ∧ numB n = true ∧ allB f n (K + 1) = true ∧ askB t p n k = true := by
  rw [aft_two, Bool.and_eq_true] at h
  obtain ⟨hg, hn, h0, h1⟩ := askB_iff.1 h.1
  exact ⟨k.toNat, by omega, by omega, hg, hn, h.2, h.1⟩

end Go.Proofs.YtgobjobppajkbaaDoor
