/-
  The first numbers of a list, and zeros.
  A LIST THAT THE CALLER GAVE, AND ITS COPY: 'toIntS'.
  PARTS OF SLICES OF INTEGERS, by their cells; 'l1Own' of the model; an append as a step of a region that draws its order.
-/
import Derived.Test.YtgobjobppajkbaaDoorOwn
import Derived.Test.YtgobjobppajkbaaDoorLists
import Derived.OwnWalk
import Derived.WalkLawsBesides
import Derived.Test.YtgobjobppajkbaaDoorIntRows
import Derived.Deep.RegionLaw
import Derived.Laws.AppendOwnNone
namespace Go.Proofs.YtgobjobppajkbaaDoor

/-- The first j of the list, and zeros. -/
def cpF (xs : List Int) (j : Nat) : List Int := (List.range xs.length).map fun (i : Nat) => if i < j then xs.getD i 0 else 0
theorem cpF_length (xs : List Int) (j : Nat) : (cpF xs j).length = xs.length := by simp [cpF]
theorem cpF_zero (xs : List Int) : cpF xs 0 = List.replicate xs.length 0 := by
  apply List.ext_getElem (by simp [cpF])
  intro i h1 h2
  simp [cpF]
theorem cpF_full (xs : List Int) : cpF xs xs.length = xs := by
  apply List.ext_getElem (by simp [cpF])
  intro i h1 h2
  simp [cpF, List.getD, h2]
theorem cpF_set (xs : List Int) (j : Nat) : ((cpF xs j).map (Value.int .i64)).set j (.int .i64 (xs.getD j 0)) = (cpF xs (j + 1)).map (Value.int .i64) := by
  apply List.ext_getElem (by simp [cpF])
  intro i h1 h2
  rw [List.getElem_set]
  by_cases e : j = i
  · subst e; simp [cpF]
  · have : (i < j) = (i < j + 1) := by simp only [eq_iff_iff]; omega
    simp [cpF, e, this]
end Go.Proofs.YtgobjobppajkbaaDoor

namespace Go.Proofs.YtgobjobppajkbaaDoor
open Go.RowKit
set_option linter.unusedVariables false

/-- The caller's list: wherever it lies, nil or not. -/
def ArgI (w : World) (v : Value) (xs : List Int) : Prop :=
  ∃ a cap, v = .slice a xs.length cap ∧ (xs ≠ [] → ∃ b off, a = some ⟨b, off, none⟩ ∧ b < w.heap.size ∧ ∀ j, j < xs.length → w.cell? ⟨b, off + j, none⟩ = some (.int .i64 (xs.getD j 0)))
theorem ArgI.kept {w w' : World} {v : Value} {xs : List Int} {n : Nat} (h : ArgI w v xs) (hb : Below n w w') (hn : w.heap.size ≤ n) : ArgI w' v xs := by
  obtain ⟨a, cap, rfl, hx⟩ := h
  refine ⟨a, cap, rfl, fun hne => ?_⟩
  obtain ⟨b, off, rfl, hlt, hc⟩ := hx hne
  exact ⟨b, off, rfl, Nat.lt_of_lt_of_le hlt hb.size, fun j hj => (hb.cell (p := ⟨b, off + j, none⟩) (Nat.lt_of_lt_of_le hlt hn)).trans (hc j hj)⟩

theorem info3c : (Tryd.prog.info? 3).map (fun i => (i.zero, i.size, i.bytes)) = some (some (.int .i64 0), 1, 8) := by kernel_rfl

end Go.Proofs.YtgobjobppajkbaaDoor

namespace Go.Proofs.YtgobjobppajkbaaDoor
open Go.RowKit
set_option linter.unusedVariables false

theorem addr_add (g off j : Nat) : (⟨g, off, none⟩ : Addr).add j = ⟨g, off + j, none⟩ := by
  unfold Addr.add
  split
  · simp_all
  · rfl
/-- A part of a slice: its cells. -/
def PartAt (w : World) (g off : Nat) (xs : List Int) : Prop := ∀ j u, (xs.map (Value.int .i64))[j]? = some u → w.cell? ((⟨g, off, none⟩ : Addr).add j) = some u
theorem ints_one (xs : List Int) : ∀ u ∈ xs.map (Value.int .i64), u.oneCell' = true := by
  intro u hu
  obtain ⟨x, _, rfl⟩ := List.mem_map.1 hu
  simp [Value.oneCell']

theorem step_append_own {P : Program} {ops : Array Oper} {o : Oper} {a : Act} {w : World} {K : Act → World → Prop} {Q : Exit → Act → World → Prop} {E : Prop} (hgd : o.guard = none) (s x : Operand) (t : TypeId)
    (ho : o.op = .call { callee := .builtin .append, args := #[s, x], argTypes := #[t, t] })
    (base : Nat) (e : TypeId) (i : TypeInfo) (z : Value) (size bytes : Nat) (ht : P.underlying t = some (.slice e)) (hi : P.info? e = some i) (hz : i.zero = some z)
    (hsize : i.size = size) (hby : i.bytes = bytes) (hzs : z.cells.size = size) (hsz : 0 < size)
    (v : Value) (n : Nat) (xs : List Value) (hs : a.eval s = v) (hown : w.ownsRow base e size v n xs)
    (ad : Addr) (m c : Nat) (news : List Value) (hx : a.eval x = .slice (some ad) m c) (hl : news.length = m * size) (hnews : ∀ j u, news[j]? = some u → w.cell? (ad.add j) = some u) (h1 : ∀ u ∈ news, u.oneCell' = true)
    (h63 : n + m ≤ maxLen) (hbytes : (n + m) * bytes ≤ 140737488355328) (hbase : base ≤ w.heap.size)
    (h : ∀ v' w', w'.ownsRow base e size v' (n + m) (xs ++ news) → w.grownBy w' v.ownBlock → K (a.put o.dst v') w') :
    if Region.wanted o (yielded ops a.tmps) = true then Oper.wp P o a w K Q else E := by
  rw [if_pos (by simp [Region.wanted, hgd])]
  exact wp_append_own w s x t ho base e i z size bytes ht hi hz hsize hby hzs hsz v n xs hs hown ad m c news hx hl hnews h1 h63 hbytes hbase (fun v' w' h2 h3 _ => h v' w' h2 h3)

theorem PartAt.kept {w w' : World} {g off : Nat} {xs : List Int} (h : PartAt w g off xs) (hg : g < w.heap.size) (hb : Below w.heap.size w w') : PartAt w' g off xs := by
  intro j u hu
  rw [addr_add]
  have := h j u hu
  rw [addr_add] at this
  exact kept_cell hb hg this
theorem PartAt.drop {w : World} {g off : Nat} {xs : List Int} (h : PartAt w g off xs) (j : Nat) : PartAt w g (off + j) (xs.drop j) := by
  intro i u hu
  rw [List.map_drop, List.getElem?_drop] at hu
  have := h _ u hu
  rw [addr_add] at this ⊢
  rw [Nat.add_assoc]
  exact this
theorem PartAt.take {w : World} {g off : Nat} {xs : List Int} (h : PartAt w g off xs) (j : Nat) : PartAt w g off (xs.take j) := by
  intro i u hu
  rw [List.map_take] at hu
  have hlt := (List.getElem?_eq_some_iff.1 hu).1
  rw [List.getElem?_take_of_lt (by simp at hlt; omega)] at hu
  exact h i u hu
theorem PartAt.at {w : World} {g off : Nat} {xs : List Int} (h : PartAt w g off xs) {j : Nat} (hj : j < xs.length) : w.cell? ⟨g, off + j, none⟩ = some (.int .i64 (xs.getD j 0)) := by
  have := h j (.int .i64 (xs.getD j 0)) (by rw [List.getElem?_map, List.getElem?_eq_getElem hj, List.getD_eq_getElem?_getD, List.getElem?_eq_getElem hj]; rfl)
  rwa [addr_add] at this

theorem retI_none {xs : List Int} {ok : Bool} {w w' : World} (hx : xs = []) (ho : ok = false) (hb : Below w.heap.size w w') : RetInts xs ok w (.returned (.tuple #[.slice none 0 0, .bool false])) w' := by
  subst hx ho
  exact ⟨_, rfl, World.ownsRow_nil _ _ _ _, hb⟩
theorem part_of_row {w : World} {g : Nat} {xs : List Int} (h : IntRow w g xs) : PartAt w g 0 xs := by
  intro j u hu
  rw [addr_add, Nat.zero_add]
  rw [List.getElem?_map] at hu
  cases hx : xs[j]? with
  | none => rw [hx] at hu; cases hu
  | some x =>
    rw [hx] at hu
    have hj := (List.getElem?_eq_some_iff.1 hx).1
    have := (h j hj).1
    rw [List.getD_eq_getElem?_getD, hx] at this
    cases hu
    exact this
theorem ints_row {w : World} {B : Nat} {v : Value} {xs : List Int} (h : IntsAt w B v xs) (hn : 0 < xs.length) : ∃ g cap, v = .slice (some ⟨g, 0, none⟩) xs.length cap ∧ B ≤ g ∧ g < w.heap.size ∧ xs.length ≤ cap ∧ cap ≤ maxLen ∧ IntRow w g xs := by
  rcases h.cases with ⟨_, rfl⟩ | ⟨g, cap, rfl, h1, h2, _, h4⟩
  · cases hn
  · rcases h.2 with ⟨hv, _⟩ | ⟨g', cap', cur, hv, _, _, hn', hc', _⟩
    · cases hv
    · cases hv
      exact ⟨_, _, rfl, h1, h2, hn', hc', h4⟩
end Go.Proofs.YtgobjobppajkbaaDoor
