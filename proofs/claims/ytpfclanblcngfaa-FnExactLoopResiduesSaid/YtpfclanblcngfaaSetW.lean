/-
  LEVELS OF THE PROGRAM: a map of the call's own from integers to truth values, read as a list of its keys; a row of such maps.
-/
import Derived.Test.YtpfclanblcngfaaSeen
import Derived.Test.YtpfclanblcngfaaLvM
import Derived.Test.YtpfclanblcngfaaIntRows
import Derived.Maps.RangeWalk
import Derived.Lib.Hide
import Derived.Maps.OwnSet
import Derived.Maps.OwnOps
namespace Go.Proofs.Ytpfclanblcngfaa
open Go.RowKit Go.Maps
set_option linter.unusedVariables false

theorem keyedInt : Keyed Try.prog 3 := int_keyed Try.underlying3
theorem ranges_below {w w' : World} {N : Nat} {P : Program} {k : TypeId} {R : Value → Option (DataW Unit × List MemPlace)} {b r n : Nat} {D : DataW Unit} {left : Lit → Bool} {cnt : Nat} (h : w.ranges P k R b r n D left cnt) (hb : Below N w w') (h1 : b < N) (h2 : r < N) : w'.ranges P k R b r n D left cnt := by
  obtain ⟨es, clock, since, seen, c0, hbl, F, hs, hD, hr, rest⟩ := h
  exact ⟨es, clock, since, seen, c0, (hb.block b h1).trans hbl, F, hs, hD, (hb.block r h2).trans hr, rest⟩
theorem ownsMap_under {w w' : World} {N : Nat} {P : Program} {k : TypeId} {R : Value → Option (DataW Unit × List MemPlace)} {b n : Nat} {D : DataW Unit} (h : w.ownsMap P k R b n D) (hb : Below N w w') (h1 : b < N) : w'.ownsMap P k R b n D := by
  obtain ⟨es, clock, h2, h3, h4, h5⟩ := h
  exact ⟨es, clock, (hb.block b h1).trans h2, h3, h4, h5⟩
set_option maxRecDepth 100000 in
theorem plainElem_bool_inv {v : Value} {z : DataW Unit × List MemPlace} (h : plainElem Try.prog 4 v = some z) : ∃ c, v = .bool c := by
  unfold plainElem at h
  rw [Try.underlying4] at h
  cases v <;> simp at h
  exact ⟨_, rfl⟩
theorem keyOf_int_inv' (key : Value) (kl : Lit) (h : keyOf Try.prog 3 key = some kl) : ∃ x, key = .int .i64 x := by
  obtain ⟨x, h1, _⟩ := Maps.keyOf_int_inv Try.underlying3 h
  exact ⟨x, h1⟩

section
variable (w : World) {ops : Array Oper} {rest : List Oper} {o : Oper} {a : Act} {Q : Exit → Act → World → Prop}
/-- A STEP OF A RANGE OVER SUCH A MAP: it is over, or a key has come. -/
theorem wpList_next_set (hg : o.guard = none) (it : Operand) (hop : o.op = Op.next it false) (b r n : Nat) (D : DataW Unit) (left : Lit → Bool) (cnt : Nat)
    (hit : a.eval it = .pointer (some ⟨r, 0, none⟩)) (h : w.ranges Try.prog 3 (plainElem (H := Unit) Try.prog 4) b r n D left cnt)
    (hDone : Hid (∀ kl, left kl = false) → wpList Try.prog ops Q rest (a.put o.dst (.tuple #[.bool false])) w)
    (hMore : ∀ (x : Int) (v : Value) (w' : World) (cnt' : Nat), Hid (has D (.int .i64 x) = true ∧ (∀ ss, CollectedI D left ss → CollectedI D (fun z => left z && !z.sameKey (.int .i64 x)) (ss ++ [x])) ∧
      w'.ranges Try.prog 3 (plainElem (H := Unit) Try.prog 4) b r n D (fun z => left z && !z.sameKey (.int .i64 x)) cnt' ∧ cnt' < cnt ∧ w.grownBy w' (some r) ∧ w'.heap.size = w.heap.size ∧
      (Instr.entry (.pointer (some ⟨r, 0, none⟩))).run Try.prog w' = .ok (.tuple #[.int .i64 x, v]) w') → wpList Try.prog ops Q rest (a.put o.dst (.tuple #[.bool true, .int .i64 x, v])) w') :
    wpList Try.prog ops Q (o :: rest) a w := by
  refine wpList_next_ranges w hg it hop 3 keyedInt (plainElem (H := Unit) Try.prog 4) (Value.int .i64) Value.bool keyOf_int_inv' (fun v y h => plainElem_bool_inv h) b r n D left cnt hit h (fun _ hl => hDone (Lib.hid hl)) ?_
  intro x c kl y w' cnt' hkey hlk hRv hat hrg hlt hgr hsz hen
  obtain ⟨x', ex, ekl, _⟩ := Maps.keyOf_int_inv Try.underlying3 hkey
  cases ex
  subst ekl
  exact hMore x _ w' cnt' (Lib.hid ⟨has_true_of_atKey hat, fun ss hss => hss.step hlk hat, hrg, hlt, hgr, hsz, hen⟩)
end

/-- What is there is true. -/
def AllTrue (D : DataW Unit) : Prop := ∀ (x : Int) (z : DataW Unit), has D (.int .i64 x) = true → D.atKey (.int .i64 x) z = .lit (.bool true)
theorem AllTrue.put {D : DataW Unit} (hM : IsMap D) (h : AllTrue D) (v : Int) : AllTrue (D.put (.int .i64 v) (.lit (.bool true))) := by
  intro x z hx
  by_cases e : x = v
  · subst e; exact atKey_put_same hM (key_ok _) _ _
  · rw [atKey_put_other (key_ne e)]
    rw [has_put_other (key_ne e)] at hx
    exact h x z hx
theorem allTrue_empty : AllTrue (.map []) := fun x z h => by simp [has_eq] at h
/-- Block b is a map whose keys are xs, all with true. -/
def SetIn (w : World) (b : Nat) (xs : List Int) : Prop := ∃ (n : Nat) (D : DataW Unit), w.ownsMap Try.prog 3 (plainElem (H := Unit) Try.prog 4) b n D ∧ n ≤ 100000 ∧ (∀ x : Int, has D (.int .i64 x) = true ↔ x ∈ xs) ∧ AllTrue D
theorem lit_bool {a b : Bool} (h : (DataW.lit (Lit.bool a) : DataW Unit) = .lit (.bool b)) : a = b := by injection h with h1; injection h1
theorem zero_bool (w : World) : (zeroValue 4).run Try.prog w = .ok (.bool false) w := by kernel_rfl
/-- Looked up. -/
theorem SetIn.look {w : World} {b : Nat} {xs : List Int} (h : SetIn w b xs) {x : Int} (hx : (Lit.int .i64 x).wf = true) :
    (Instr.lookup 48 (.map (some b)) (.int .i64 x) false).run Try.prog w = .ok (.bool (decide (x ∈ xs))) w := by
  obtain ⟨n, D, hown, _, hD, hT⟩ := h
  obtain ⟨v, ps, hrun, hv⟩ := hown.lookup keyedInt Try.underlying48 (z := .bool false) (zero_bool w) (plainElem_bool Try.underlying4 false) (keyOf_int_mk (P := Try.prog) Try.underlying3 hx)
  rw [hrun]
  obtain ⟨c, rfl⟩ := plainElem_bool_inv hv
  rw [plainElem_bool Try.underlying4 c] at hv
  simp only [Option.some.injEq, Prod.mk.injEq] at hv
  have hc := hv.1
  by_cases hm : x ∈ xs
  · rw [hT x _ ((hD x).2 hm)] at hc
    have : c = true := lit_bool hc
    rw [this, decide_eq_true hm]
  · have hh : has D (.int .i64 x) = false := by
      rw [Bool.eq_false_iff]
      exact fun h => hm ((hD x).1 h)
    rw [atKey_of_not_has hh] at hc
    have : c = false := lit_bool hc
    rw [this, decide_eq_false hm]
theorem SetIn.under {w w' : World} {N b : Nat} {xs : List Int} (h : SetIn w b xs) (hb : Below N w w') (h1 : b < N) : SetIn w' b xs := by
  obtain ⟨n, D, h2, h3, h4, h5⟩ := h
  exact ⟨n, D, ownsMap_under h2 hb h1, h3, h4, h5⟩
theorem SetIn.lt {w : World} {b : Nat} {xs : List Int} (h : SetIn w b xs) : b < w.heap.size := by
  obtain ⟨n, D, h2, _, _⟩ := h
  exact h2.lt
/-- The keys are as many as they are different ones. -/
theorem set_size {w : World} {b n : Nat} {D : DataW Unit} {xs : List Int} (h : w.ownsMap Try.prog 3 (plainElem (H := Unit) Try.prog 4) b n D) (hx : ∀ x : Int, has D (.int .i64 x) = true ↔ x ∈ xs) (hn : xs.Nodup) : size D = xs.length ∧ xs.Perm (intKeys D) := by
  have hc : CollectedI D (fun _ => false) xs := ⟨hn, fun x => by rw [hx]; simp⟩
  have hp := hc.perm h keyedInt Try.underlying3 (fun _ => rfl)
  refine ⟨?_, hp⟩
  have h1 := hp.length_eq
  obtain ⟨es, hD, _⟩ := h.entries keyedInt
  subst hD
  rw [h1]
  simp [intKeys, size_eq]
/-- A row of maps whose keys are the lists ls. -/
def LevRow (w : World) (B : Nat) (v : Value) (ls : List (List Int)) : Prop := ∃ bs : List Nat, w.ownsRow B 48 1 v ls.length (bs.map fun b => .map (some b)) ∧ bs.length = ls.length ∧ ∀ (k b : Nat), bs[k]? = some b → SetIn w b (ls.getD k [])
theorem LevRow.kept {w w' : World} {B : Nat} {v : Value} {ls : List (List Int)} (h : LevRow w B v ls) (hb : Below w.heap.size w w') : LevRow w' B v ls := by
  obtain ⟨bs, h1, h2, h3⟩ := h
  exact ⟨bs, ownsRow_kept h1 hb, h2, fun k b hk => (h3 k b hk).under hb (h3 k b hk).lt⟩
/-- One of them. -/
theorem LevRow.at {w : World} {B : Nat} {v : Value} {ls : List (List Int)} (h : LevRow w B v ls) {k : Nat} (hk : k < ls.length) : ∃ g cap b, v = .slice (some ⟨g, 0, none⟩) ls.length cap ∧ B ≤ g ∧ g < w.heap.size ∧ ls.length ≤ cap ∧ cap ≤ maxLen ∧ w.cell? ⟨g, k, none⟩ = some (.map (some b)) ∧ SetIn w b (ls.getD k []) := by
  obtain ⟨bs, h1, h2, h3⟩ := h
  obtain ⟨g, cap, rfl, a1, a2, a3, a4, a5⟩ := row_cells h1 (by omega)
  have hb : bs[k]? = some (bs[k]'(by omega)) := List.getElem?_eq_getElem _
  exact ⟨g, cap, _, rfl, a1, a2, a3, a4, a5 k _ (by rw [List.getElem?_map, hb]; rfl), h3 k _ hb⟩
/-- One more. -/
theorem LevRow.snoc {w : World} {B b : Nat} {bs : List Nat} {v : Value} {ls : List (List Int)} {xs : List Int} (h1 : w.ownsRow B 48 1 v (ls.length + 1) ((bs.map fun b => Value.map (some b)) ++ [.map (some b)])) (h2 : bs.length = ls.length) (h3 : ∀ (k b : Nat), bs[k]? = some b → SetIn w b (ls.getD k [])) (h4 : SetIn w b xs) : LevRow w B v (ls ++ [xs]) := by
  refine ⟨bs ++ [b], by simpa using h1, by simp [h2], fun k c hk => ?_⟩
  by_cases hlt : k < bs.length
  · rw [List.getElem?_append_left hlt] at hk
    have := h3 k c hk
    rwa [List.getD_eq_getElem?_getD, List.getElem?_append_left (by omega), ← List.getD_eq_getElem?_getD]
  · have hk2 : k < (bs ++ [b]).length := (List.getElem?_eq_some_iff.1 hk).1
    have hk3 : k = ls.length := by simp at hk2; omega
    subst hk3
    rw [List.getElem?_append_right (by omega), h2, Nat.sub_self] at hk
    cases hk
    rw [List.getD_eq_getElem?_getD, List.getElem?_append_right (Nat.le_refl _), Nat.sub_self]
    exact h4

theorem LevRow.base {w : World} {B B' : Nat} {v : Value} {ls : List (List Int)} (h : LevRow w B v ls) (hb : B' ≤ B) : LevRow w B' v ls := by
  obtain ⟨bs, h1, h2, h3⟩ := h
  exact ⟨bs, ownsRow_base h1 hb, h2, h3⟩
/-- A map's block is no row's. -/
theorem SetIn.grown {w w' : World} {b B : Nat} {e : TypeId} {v : Value} {n k : Nat} {vs : List Value} {xs : List Int} (h : SetIn w b xs) (hr : w.ownsRow B e k v n vs) (hg : w.grownBy w' v.ownBlock) : SetIn w' b xs := by
  obtain ⟨m, D, h2, h3, h4, h5⟩ := h
  refine ⟨m, D, h2.kept hg ?_, h3, h4, h5⟩
  intro e0
  rcases hr.2 with ⟨rfl, _⟩ | ⟨g, cap, cur, rfl, _, hgc, _⟩
  · cases e0
  · simp only [Value.ownBlock, Option.some.injEq] at e0
    subst e0
    obtain ⟨es, clock, hm, _⟩ := h2
    rw [hgc] at hm
    cases hm
theorem has_put_iff {D : DataW Unit} (hM : IsMap D) (v z : Int) (d : DataW Unit) : has (D.put (.int .i64 v) d) (.int .i64 z) = true ↔ has D (.int .i64 z) = true ∨ z = v := by
  by_cases h : z = v
  · subst h
    rw [has_put_same hM (key_ok _)]
    simp
  · rw [has_put_other (key_ne h)]
    simp [h]
end Go.Proofs.Ytpfclanblcngfaa
