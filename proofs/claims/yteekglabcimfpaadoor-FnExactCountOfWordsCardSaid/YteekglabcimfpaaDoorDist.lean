/-
  HOW MANY DIFFERENT ONES: two lists that tell the same numbers apart have as many. No program.
-/
import Derived.Test.YteekglabcimfpaaDoorWord
import Derived.Maps.Views
namespace Go.Proofs.YteekglabcimfpaaDoor
open Go.RowKit
set_option linter.unusedVariables false

/-- One that is not there yet goes to the end. -/
def addBy {β : Type} (r : β → β → Bool) (acc : List β) (x : β) : List β := if acc.any (fun y => r y x) then acc else acc ++ [x]
theorem fold_map {α β : Type} (f : α → β) (r : β → β → Bool) : ∀ (xs A : List α), (xs.map f).foldl (addBy r) (A.map f) = (xs.foldl (addBy fun y x => r (f y) (f x)) A).map f
  | [], A => rfl
  | x :: xs, A => by
    rw [List.map_cons, List.foldl_cons, List.foldl_cons, ← fold_map f r xs]
    congr 1
    unfold addBy
    rw [List.any_map]
    by_cases h : A.any (fun y => r (f y) (f x)) = true
    · rw [if_pos h, if_pos (by simpa [Function.comp_def] using h)]
    · rw [if_neg h, if_neg (by simpa [Function.comp_def] using h)]
      simp
theorem fold_len {α β γ : Type} (f : α → β) (g : α → γ) (r : β → β → Bool) (s : γ → γ → Bool) (h : ∀ x y, r (f x) (f y) = s (g x) (g y)) (xs : List α) :
    ((xs.map f).foldl (addBy r) []).length = ((xs.map g).foldl (addBy s) []).length := by
  have h1 := fold_map f r xs []
  have h2 := fold_map g s xs []
  rw [List.map_nil] at h1 h2
  rw [h1, h2, List.length_map, List.length_map, show (fun y x => r (f y) (f x)) = (fun y x => s (g y) (g x)) from funext fun y => funext fun x => h y x]
theorem addBy_len {β : Type} (r : β → β → Bool) (acc : List β) (x : β) : (addBy r acc x).length ≤ acc.length + 1 := by
  unfold addBy; split <;> simp
theorem fold_len_le {β : Type} (r : β → β → Bool) : ∀ (xs acc : List β), (xs.foldl (addBy r) acc).length ≤ acc.length + xs.length
  | [], acc => by simp
  | x :: xs, acc => by
    rw [List.foldl_cons]
    have := fold_len_le r xs (addBy r acc x)
    have := addBy_len r acc x
    simp only [List.length_cons]
    omega
/-- A number's word, as a text. -/
def wtx (t p : Int) (L : Nat) (n : Int) : ByteArray := ⟨(wrd t p n L).toArray⟩
/-- A number's residue, as a key. -/
def rkey (L : Nat) (n : Int) : Lit := .int .i64 (n % 2 ^ L)
theorem rkey_is (L : Nat) (n : Int) : Go.WideAt.IsKeyLit (rkey L n) := by trivial
/-- Are two texts the same, as the program asks it? -/
def sEq (a b : ByteArray) : Bool := a.toList == b.toList
theorem sameWord {t p : Int} (hg : goodB t p = true) (L : Nat) (m n : Int) : sEq (wtx t p L m) (wtx t p L n) = (rkey L m).sameKey (rkey L n) := by
  rw [Bool.eq_iff_iff, Go.WideAt.sameKey_iff (rkey_is L n), sEq, beq_iff_eq, ByteArray.toList_eq, ByteArray.toList_eq]
  unfold wtx rkey
  constructor
  · intro h
    have h2 : wrd t p m L = wrd t p n L := by simpa using h
    rw [(wrd_inj hg m n L).1 h2]
  · intro h
    have h1 : m % 2 ^ L = n % 2 ^ L := by injection h
    rw [(wrd_inj hg m n L).2 h1]
/-- The different words of the first k numbers. -/
def wlist (t p : Int) (L : Nat) (xs : List Int) (k : Nat) : List ByteArray := ((xs.take k).map (wtx t p L)).foldl (addBy sEq) []
theorem wlist_zero (t p : Int) (L : Nat) (xs : List Int) : wlist t p L xs 0 = [] := by simp [wlist]
theorem wlist_succ (t p : Int) (L : Nat) (xs : List Int) (k : Nat) (hk : k < xs.length) : wlist t p L xs (k + 1) = addBy sEq (wlist t p L xs k) (wtx t p L (xs.getD k 0)) := by
  unfold wlist
  rw [List.take_add_one, List.getElem?_eq_getElem hk]
  rw [List.map_append, List.foldl_append, List.getD, List.getElem?_eq_getElem hk]
  rfl
theorem wlist_len (t p : Int) (L : Nat) (xs : List Int) (k : Nat) : (wlist t p L xs k).length ≤ k := by
  unfold wlist
  have := fold_len_le sEq ((xs.take k).map (wtx t p L)) []
  rw [List.length_map, List.length_take, List.length_nil] at this
  omega
/-- The residues of the first k numbers, as a set. -/
def rset (L : Nat) (xs : List Int) (k : Nat) : DataW Unit := Go.Maps.setOf (.lit (.bool true)) ((xs.take k).map (rkey L))
theorem rset_zero (L : Nat) (xs : List Int) : rset L xs 0 = .map [] := by simp [rset, Go.Maps.setOf]
theorem rset_succ (L : Nat) (xs : List Int) (k : Nat) (hk : k < xs.length) : rset L xs (k + 1) = (rset L xs k).put (rkey L (xs.getD k 0)) (.lit (.bool true)) := by
  unfold rset
  rw [List.take_add_one, List.getElem?_eq_getElem hk]
  rw [List.map_append, List.getD, List.getElem?_eq_getElem hk]
  exact Go.Maps.setOf_snoc _ _ _
/-- THE SET HAS AS MANY AS THERE ARE WORDS. -/
theorem rset_size {t p : Int} (hg : goodB t p = true) (L : Nat) (xs : List Int) (k : Nat) : Go.Maps.size (rset L xs k) = (wlist t p L xs k).length := by
  unfold rset wlist
  rw [Go.Maps.size_setOf _ _ (by
    intro x hx
    obtain ⟨n, _, rfl⟩ := List.mem_map.1 hx
    exact rkey_is L n)]
  exact (fold_len (wtx t p L) (rkey L) sEq Lit.sameKey (fun x y => sameWord hg L x y) (xs.take k)).symm
end Go.Proofs.YteekglabcimfpaaDoor
