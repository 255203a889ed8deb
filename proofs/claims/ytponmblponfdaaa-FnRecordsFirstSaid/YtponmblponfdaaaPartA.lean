/-
  PARTS OF SLICES OF INTEGERS, by their cells; 'l1Own' of the model; an append as a step of a region that draws its order.
  'cyTurn' of the model: a cycle from its least number on.
  'cyTurn' of the model: what stands from the least number on, and behind it what stands ahead.
-/
import Derived.Test.YtponmblponfdaaaOwn
import Derived.Deep.RegionLaw
import Derived.Laws.AppendOwnNone
import Derived.Test.YtponmblponfdaaaFindC
import Derived.Deep.AppendLies
import Derived.RegionTactic
import Derived.ChangeAlike
namespace Go.Proofs.Ytponmblponfdaaa
open Go.RowKit
set_option linter.unusedVariables false

theorem addr_add (g off j : Nat) : (⟨g, off, none⟩ : Addr).add j = ⟨g, off + j, none⟩ := by
  unfold Addr.add
  split
  · simp_all
  · rfl
/-- A part of a slice: its cells. -/
def PartAt (w : World) (g off : Nat) (xs : List Int) : Prop := ∀ j u, (xs.map (Value.int .i64))[j]? = some u → w.cell? ((⟨g, off, none⟩ : Addr).add j) = some u
theorem ints_one (xs : List Int) : ∀ u ∈ xs.map (Value.int .i64), u.oneCell' = true := by
  intro u hu
  obtain ⟨x, _, rfl⟩ := List.mem_map.1 hu
  simp [Value.oneCell']

set_option maxRecDepth 100000 in
set_option maxHeartbeats 1000000 in
theorem l1Own_any (g off cap : Nat) (xs : List Int) (w : World) (hl : xs.length ≤ 100000) (hp : PartAt w g off xs) (hg : g < w.heap.size) :
    Calls Try.prog 86 #[.slice (some ⟨g, off, none⟩) xs.length cap] w fun e w' => ∃ v, e = .returned v ∧ IntsAt w' w.heap.size v xs ∧ Below w.heap.size w w' := by
  obtain ⟨i0, hi, hi0, hi1, hi2⟩ := info_parts info3
  have HP : Hid (PartAt (w.alloc (.cells #[] 3)) g off xs) := Lib.hid (fun j u hu => by rw [addr_add]; exact (kept_cell ((Below.refl _ w).alloc (Nat.le_refl _) _) hg (by
    have h := hp j u hu
    rw [addr_add] at h
    exact h)))
  have hown0 : (w.alloc (Obj.cells #[] 3)).ownsRow w.heap.size 3 1 (.slice (some ⟨w.heap.size, 0, none⟩) 0 0) 0 [] := by
    have := World.ownsRow_lit (base := w.heap.size) (e := 3) (size := 1) w #[] 0 (by simp) (by unfold maxLen; omega) (by simp)
    simpa using this
  have HO := Lib.hid hown0
  clear hp hown0
  go_enter Try.func86, Try.ntmps86
  go_wp2_with (at_builtin; refine wpList_append_own _ rfl _ _ 31 rfl w.heap.size 3 i0 (.int .i64 0) 1 8 Try.underlying31 hi hi0 hi1 hi2 rfl (by decide) _ _ _ rfl HO.out ⟨g, off, none⟩ xs.length cap (xs.map (Value.int .i64)) rfl (by simp) HP.out (ints_one xs) (by unfold maxLen; omega) (by omega) (by simp) ?_; intro v' w3 hown3 hgrow _)
  go_ret
  rw [Nat.zero_add, List.nil_append] at hown3
  exact ⟨v', rfl, hown3, ((Below.refl _ w).alloc (Nat.le_refl _) _).grown hgrow (by simp) (fun k e => (HO.out.lt k e).1)⟩
theorem step_append_own {P : Program} {ops : Array Oper} {o : Oper} {a : Act} {w : World} {K : Act → World → Prop} {Q : Exit → Act → World → Prop} {E : Prop} (hgd : o.guard = none) (s x : Operand) (t : TypeId)
    (ho : o.op = .call { callee := .builtin .append, args := #[s, x], argTypes := #[t, t] })
    (base : Nat) (e : TypeId) (i : TypeInfo) (z : Value) (size bytes : Nat) (ht : P.underlying t = some (.slice e)) (hi : P.info? e = some i) (hz : i.zero = some z)
    (hsize : i.size = size) (hby : i.bytes = bytes) (hzs : z.cells.size = size) (hsz : 0 < size)
    (v : Value) (n : Nat) (xs : List Value) (hs : a.eval s = v) (hown : w.ownsRow base e size v n xs)
    (ad : Addr) (m c : Nat) (news : List Value) (hx : a.eval x = .slice (some ad) m c) (hl : news.length = m * size) (hnews : ∀ j u, news[j]? = some u → w.cell? (ad.add j) = some u) (h1 : ∀ u ∈ news, u.oneCell' = true)
    (h63 : n + m ≤ maxLen) (hbytes : (n + m) * bytes ≤ 140737488355328) (hbase : base ≤ w.heap.size)
    (h : ∀ v' w', w'.ownsRow base e size v' (n + m) (xs ++ news) → w.grownBy w' v.ownBlock → K (a.put o.dst v') w') :
    if Region.wanted o (yielded ops a.tmps) = true then Oper.wp P o a w K Q else E := by
  rw [if_pos (by simp [Region.wanted, hgd])]
  exact wp_append_own w s x t ho base e i z size bytes ht hi hz hsize hby hzs hsz v n xs hs hown ad m c news hx hl hnews h1 h63 hbytes hbase (fun v' w' h2 h3 _ => h v' w' h2 h3)

theorem PartAt.kept {w w' : World} {g off : Nat} {xs : List Int} (h : PartAt w g off xs) (hg : g < w.heap.size) (hb : Below w.heap.size w w') : PartAt w' g off xs := by
  intro j u hu
  rw [addr_add]
  have := h j u hu
  rw [addr_add] at this
  exact kept_cell hb hg this
theorem PartAt.drop {w : World} {g off : Nat} {xs : List Int} (h : PartAt w g off xs) (j : Nat) : PartAt w g (off + j) (xs.drop j) := by
  intro i u hu
  rw [List.map_drop, List.getElem?_drop] at hu
  have := h _ u hu
  rw [addr_add] at this ⊢
  rw [Nat.add_assoc]
  exact this
theorem PartAt.take {w : World} {g off : Nat} {xs : List Int} (h : PartAt w g off xs) (j : Nat) : PartAt w g off (xs.take j) := by
  intro i u hu
  rw [List.map_take] at hu
  have hlt := (List.getElem?_eq_some_iff.1 hu).1
  rw [List.getElem?_take_of_lt (by simp at hlt; omega)] at hu
  exact h i u hu
theorem PartAt.at {w : World} {g off : Nat} {xs : List Int} (h : PartAt w g off xs) {j : Nat} (hj : j < xs.length) : w.cell? ⟨g, off + j, none⟩ = some (.int .i64 (xs.getD j 0)) := by
  have := h j (.int .i64 (xs.getD j 0)) (by rw [List.getElem?_map, List.getElem?_eq_getElem hj, List.getD_eq_getElem?_getD, List.getElem?_eq_getElem hj]; rfl)
  rwa [addr_add] at this

theorem retI_none {xs : List Int} {ok : Bool} {w w' : World} (hx : xs = []) (ho : ok = false) (hb : Below w.heap.size w w') : RetInts xs ok w (.returned (.tuple #[.slice none 0 0, .bool false])) w' := by
  subst hx ho
  exact ⟨_, rfl, World.ownsRow_nil _ _ _ _, hb⟩
theorem part_of_row {w : World} {g : Nat} {xs : List Int} (h : IntRow w g xs) : PartAt w g 0 xs := by
  intro j u hu
  rw [addr_add, Nat.zero_add]
  rw [List.getElem?_map] at hu
  cases hx : xs[j]? with
  | none => rw [hx] at hu; cases hu
  | some x =>
    rw [hx] at hu
    have hj := (List.getElem?_eq_some_iff.1 hx).1
    have := (h j hj).1
    rw [List.getD_eq_getElem?_getD, hx] at this
    cases hu
    exact this
theorem ints_row {w : World} {B : Nat} {v : Value} {xs : List Int} (h : IntsAt w B v xs) (hn : 0 < xs.length) : ∃ g cap, v = .slice (some ⟨g, 0, none⟩) xs.length cap ∧ B ≤ g ∧ g < w.heap.size ∧ xs.length ≤ cap ∧ cap ≤ maxLen ∧ IntRow w g xs := by
  rcases h.cases with ⟨_, rfl⟩ | ⟨g, cap, rfl, h1, h2, _, h4⟩
  · cases hn
  · rcases h.2 with ⟨hv, _⟩ | ⟨g', cap', cur, hv, _, _, hn', hc', _⟩
    · cases hv
    · cases hv
      exact ⟨_, _, rfl, h1, h2, hn', hc', h4⟩
end Go.Proofs.Ytponmblponfdaaa

namespace Go.Proofs.Ytponmblponfdaaa
open Go.RowKit
set_option linter.unusedVariables false

set_option maxRecDepth 100000 in
set_option maxHeartbeats 1000000 in
/-- 'mpFar' at a part of a slice. -/
theorem mpFar_off (a : Nat → Int) (K g off cap : Nat) (w : World) (hK : K ≤ 1000) (hc : ∀ j, j ≤ K → w.cell? ⟨g, off + j, none⟩ = some (.int .i64 (a j))) :
    Calls Try.prog 60 #[.slice (some ⟨g, off, none⟩) (K + 1) cap, .bool false] w fun e w' => e = .returned (.int .i64 (far false a K)) ∧ w = w' := by
  have HC := Lib.hid hc
  have hK2 : (K : Int) ≤ 1000 := by omega
  clear hc
  go_enter Try.func60, Try.ntmps60
  go_wp2_with fail
  go_loop [5, 10] (fun b i => ∃ j : Nat, j ≤ K + 1 ∧ i = .int .i64 j ∧ b = .int .i64 (far false a (j - 1))) (fun _ i => K + 1 - (intOf i).toNat)
  case atStart => exact ⟨0, by omega, rfl, rfl⟩
  case round =>
    obtain ⟨j, hj, rfl, rfl⟩ := hrel
    obtain ⟨b, hb⟩ : ∃ b, b = far false a (j - 1) := ⟨_, rfl⟩
    rw [← hb]
    have HB := Lib.hid hb
    have hbl : b ≤ K := by have := far_le false a (j - 1); omega
    clear hb
    by_cases hlt : j < K + 1
    · have q := HC.out j (by omega)
      have qb := HC.out b hbl
      have hi1 : (j : Int) < (K : Int) + 1 := by omega
      have hi2 : (b : Int) < (K : Int) + 1 := by omega
      have hst : far false a j = if a j < a b then j else b := by
        cases j with
        | zero =>
          have hb0 : b = 0 := HB.out
          rw [hb0]; simp [far]
        | succ j => rw [far, HB.out, bet]; simp
      by_cases hc : a j < a b
      · have hst' : far false a j = j := by rw [hst, if_pos hc]
        have HST := Lib.hid hst'
        clear hst hst'
        go_wp2
        exact ⟨⟨j + 1, hlt, by go_num, by rw [Nat.add_sub_cancel, HST.out]⟩, by simp [intOf]; omega⟩
      · have hst' : far false a j = b := by rw [hst, if_neg hc]
        have HST := Lib.hid hst'
        clear hst hst'
        go_wp2
        exact ⟨⟨j + 1, hlt, by go_num, by rw [Nat.add_sub_cancel, HST.out]⟩, by simp [intOf]; omega⟩
    · obtain rfl : j = K + 1 := by omega
      have hb' : b = far false a K := by rw [HB.out, Nat.add_sub_cancel]
      have HB' := Lib.hid hb'
      have hi1 : ¬ ((K : Int) + 1 < (K : Int) + 1) := by omega
      clear hb'
      go_wp2
      go_ret
      exact ⟨ret_int (by rw [HB'.out]), rfl⟩

end Go.Proofs.Ytponmblponfdaaa

namespace Go.Proofs.Ytponmblponfdaaa
open Go.RowKit
set_option linter.unusedVariables false

set_option maxRecDepth 100000 in
set_option maxHeartbeats 2000000 in
theorem cyTurn_any (g off cap L : Nat) (xs : List Int) (w : World) (hL : xs.length = L + 1) (hl : L + 1 ≤ 1000) (hcap : L + 1 ≤ cap) (hcm : cap ≤ maxLen) (hp : PartAt w g off xs) (hg : g < w.heap.size) :
    Calls Try.prog 73 #[.slice (some ⟨g, off, none⟩) (L + 1) cap] w fun e w' => ∃ v, e = .returned v ∧ IntsAt w' w.heap.size v (xs.drop (far false (fun j => xs.getD j 0) L) ++ xs.take (far false (fun j => xs.getD j 0) L)) ∧ Below w.heap.size w w' := by
  obtain ⟨i0, hi, hi0, hi1, hi2⟩ := info_parts info3
  have HM := Lib.hid (fun w hc => mpFar_off (fun j => xs.getD j 0) L g off cap w (by omega) hc)
  have HC : Hid (∀ j, j ≤ L → w.cell? ⟨g, off + j, none⟩ = some (.int .i64 ((fun j => xs.getD j 0) j))) := Lib.hid (fun j hj => hp.at (by omega))
  have hj := far_le false (fun j => xs.getD j 0) L
  generalize far false (fun j => xs.getD j 0) L = j at HM hj ⊢
  have HPD := Lib.hid (hp.drop j)
  have HPT := Lib.hid (hp.take j)
  have hld : (xs.drop j).length = L + 1 - j := by rw [List.length_drop, hL]
  have hlt : (xs.take j).length = j := by rw [List.length_take, hL]; omega
  have HOW := Lib.hid (fun w h hg => l1Own_any g (off + j) (cap - j) (xs.drop j) w (by omega) h hg)
  rw [hld] at HOW
  generalize xs.drop j = ds at HPD HOW hld ⊢
  generalize xs.take j = ts at HPT hlt ⊢
  have hj1 : (j : Int) ≤ (L : Int) + 1 := by omega
  have hj2 : (L : Int) + 1 ≤ (cap : Int) := by omega
  have hL2 : (L : Int) + 1 ≤ 1000 := by omega
  have hcm2 : (cap : Int) ≤ 9223372036854775807 := by unfold maxLen at hcm; omega
  have hj3 : (j : Int) ≤ (cap : Int) := by omega
  have hcj : ¬ (cap = j) := by omega
  clear hp hL
  go_enter Try.func73, Try.ntmps73
  go_wp2_with fail
  refine (HM.out _ HC.out).mono ?_
  rintro e w2 ⟨rfl, rfl⟩
  go_wp2_with fail
  have HOWD := Lib.hid (HOW.out w.drew (HPD.out.kept hg ((Below.refl _ _).drew)) hg)
  have HPTD := Lib.hid (HPT.out.kept hg ((Below.refl _ w).drew))
  go_region_law (first
    | (go_simp; go_at_call 86; refine (HOWD.out).mono ?_; rintro e w4 ⟨v4, rfl, hr4, hb4⟩; have HO := Lib.hid hr4; have HB4 := Lib.hid hb4; have HPT2 := Lib.hid (HPTD.out.kept hg hb4))
    | (refine step_append_own rfl (.tmp 9) (.tmp 12) 31 rfl w.heap.size 3 i0 (.int .i64 0) 1 8 Try.underlying31 hi hi0 hi1 hi2 rfl (by decide) _ _ _ (by simp [Act.eval]) HO.out ⟨g, off, none⟩ j cap (ts.map (Value.int .i64)) (by simp [Act.eval]) (by simp [hlt]) HPT2.out (ints_one ts) (by unfold maxLen; omega) (by omega) HB4.out.size ?_; intro v' w3 hown3 hgrow))
  go_wp2_with fail
  go_ret
  rw [hld] at hown3
  refine ⟨v', rfl, ?_, ?_⟩
  · unfold IntsAt
    rw [List.length_append, List.map_append, hld, hlt]
    exact hown3
  · exact (((Below.refl _ w).drew).trans (HB4.out.mono (Nat.le_refl _))).grown hgrow HB4.out.size (fun k e => (HO.out.lt k e).1)
end Go.Proofs.Ytponmblponfdaaa
