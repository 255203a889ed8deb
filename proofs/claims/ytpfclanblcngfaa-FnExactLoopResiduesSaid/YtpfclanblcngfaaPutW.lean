/-
  'l1Has', 'l1Put' of the model: is it in a list; put in where it belongs.
-/
import Derived.Test.YtpfclanblcngfaaPutM
import Derived.Test.YtpfclanblcngfaaPartA
import Derived.Test.YtpfclanblcngfaaLists
import Derived.Laws.AppendOwnNone
namespace Go.Proofs.Ytpfclanblcngfaa
open Go.RowKit
set_option linter.unusedVariables false

theorem mem_of_at {xs : List Int} {j : Nat} (h : j < xs.length) {x : Int} (e : xs.getD j 0 = x) : x ∈ xs := by
  rw [List.getD_eq_getElem?_getD, List.getElem?_eq_getElem h] at e
  exact e ▸ List.getElem_mem h
theorem not_mem_of {xs : List Int} {x : Int} (h : ∀ m, m < xs.length → xs.getD m 0 ≠ x) : x ∉ xs := by
  intro hm
  obtain ⟨j, hj, e⟩ := List.getElem_of_mem hm
  exact h j hj (by rw [List.getD_eq_getElem?_getD, List.getElem?_eq_getElem hj]; exact e)

set_option maxRecDepth 100000 in
set_option maxHeartbeats 1000000 in
theorem l1Has_row (xs : List Int) (x : Int) (g cap : Nat) (w : World) (hl : xs.length ≤ 100000) (h : IntRow w g xs) :
    Calls Try.prog 35 #[.slice (some ⟨g, 0, none⟩) xs.length cap, .int .i64 x] w fun e w' => e = .returned (.bool (decide (x ∈ xs))) ∧ w = w' := by
  have HYES := Lib.hid (fun j (hj : j < xs.length) (e : xs.getD j 0 = x) => (decide_eq_true (mem_of_at hj e) : decide (x ∈ xs) = true))
  have HNO := Lib.hid (fun (hn : ∀ m, m < xs.length → xs.getD m 0 ≠ x) => (decide_eq_false (not_mem_of hn) : decide (x ∈ xs) = false))
  have H := Lib.hid h
  generalize decide (x ∈ xs) = r at HYES HNO ⊢
  obtain ⟨L, hL⟩ : ∃ L, xs.length = L := ⟨_, rfl⟩
  rw [hL] at hl HYES HNO ⊢
  have hll : (L : Int) ≤ 100000 := by omega
  have HL := Lib.hid hL
  clear hL h
  go_enter Try.func35, Try.ntmps35
  go_wp2_with fail
  go_loop [9] (fun i => ∃ j : Nat, j ≤ L ∧ i = .int .i64 j ∧ ∀ m, m < j → xs.getD m 0 ≠ x) (fun i => L - (RowKit.intOf i).toNat)
  case atStart => exact ⟨0, Nat.zero_le _, rfl, by simp⟩
  case round =>
    obtain ⟨j, hj, rfl, hne⟩ := hrel
    have HNE := Lib.hid hne
    clear hne
    by_cases hlt : j < L
    · have q := (H.out j (by rw [HL.out]; exact hlt)).1
      obtain ⟨v, hv⟩ : ∃ v, xs.getD j 0 = v := ⟨_, rfl⟩
      rw [hv] at q
      have HV := Lib.hid hv
      clear hv
      by_cases he : v = x
      · subst he
        obtain rfl : r = true := HYES.out j hlt HV.out
        go_wp2
        go_ret
        exact ⟨rfl, rfl⟩
      · have HE := Lib.hid he
        go_wp2
        exact ⟨⟨j + 1, hlt, by go_num, fun m hm => by
          by_cases e : m = j
          · subst e; rw [HV.out]; exact HE.out
          · exact HNE.out m (by omega)⟩, by simp [RowKit.intOf]; omega⟩
    · obtain rfl : j = L := by omega
      obtain rfl : r = false := HNO.out HNE.out
      go_wp2
      go_ret
      exact ⟨rfl, rfl⟩
theorem l1Has_nil (x : Int) (w : World) :
    Calls Try.prog 35 #[.slice none 0 0, .int .i64 x] w fun e w' => e = .returned (.bool false) ∧ w = w' := by
  go_enter Try.func35, Try.ntmps35
  go_wp2_with fail
  refine wp_loop_rounds 1 ?_
  rw [rounds_succ]
  go_wp2
  go_ret
  exact ⟨rfl, rfl⟩

theorem new_int (w : World) (v : Value) (t : TypeId) {j : Nat} {u : Value} (h : [v][j]? = some u) : (w.alloc (.cells #[v] t)).cell? ((⟨w.heap.size, 0, none⟩ : Addr).add j) = some u := new_cell _ _ _ h
theorem nil_row (w : World) : (w.alloc (Obj.cells #[] 3)).ownsRow w.heap.size 3 1 (.slice (some ⟨w.heap.size, 0, none⟩) 0 0) 0 [] := by
  have := World.ownsRow_lit (base := w.heap.size) (e := 3) (size := 1) w #[] 0 (by simp) (by unfold maxLen; omega) (by simp)
  simpa using this

set_option maxRecDepth 100000 in
set_option maxHeartbeats 1000000 in
theorem l1Put_nil (x : Int) (w : World) :
    Calls Try.prog 40 #[.slice none 0 0, .int .i64 x] w fun e w' => ∃ v, e = .returned v ∧ IntsAt w' w.heap.size v [x] ∧ Below w.heap.size w w' := by
  obtain ⟨i0, hi, hi0, hi1, hi2⟩ := info_parts info3
  have HO0 := Lib.hid (nil_row w)
  have HLT0 := Lib.hid (fun k e => ((nil_row w).lt k e).1)
  go_enter Try.func40, Try.ntmps40
  go_wp2_with fail
  refine wp_loop_rounds 1 ?_
  rw [rounds_succ]
  go_wp2_with (at_builtin; first
    | (refine wpList_append_own_none rfl _ _ 24 rfl w.heap.size 3 i0 1 Try.underlying24 hi _ _ _ rfl HO0.out rfl ?_)
    | (refine wpList_append_own _ rfl _ _ 24 rfl w.heap.size 3 i0 (.int .i64 0) 1 8 Try.underlying24 hi hi0 hi1 hi2 rfl (by decide) _ _ _ rfl (HO0.out.alloc _) ⟨w.heap.size + 1, 0, none⟩ 1 1 [.int .i64 x] rfl rfl (fun j u hu => by have := new_int (w.alloc (.cells #[] 3)) (.int .i64 x) 3 hu; simpa using this) (by simp [Value.oneCell']) (by unfold maxLen; omega) (by omega) (by simp; omega) ?_; intro v2 w2 hown2 hgrow2 _; have HO2 := Lib.hid hown2; have HG2 := Lib.hid hgrow2; clear HO0 hown2 hgrow2)
    | (refine wpList_append_own_none rfl _ _ 24 rfl w.heap.size 3 i0 1 Try.underlying24 hi _ _ _ rfl HO2.out rfl ?_))
  go_ret
  refine ⟨v2, rfl, ?_, ?_⟩
  · have := HO2.out
    rw [Nat.zero_add, List.nil_append] at this
    exact this
  · exact ((((Below.refl _ w).alloc (Nat.le_refl _) _).alloc (by simp) _).grown HG2.out (by simp; omega) (fun k e => HLT0.out k e))

set_option maxRecDepth 100000 in
set_option maxHeartbeats 4000000 in
theorem l1Put_row (xs : List Int) (x : Int) (g cap : Nat) (w : World) (h0 : xs ≠ []) (hl : xs.length ≤ 1000) (hcap : xs.length ≤ cap) (hcm : cap ≤ maxLen) (h : IntRow w g xs) (hg : g < w.heap.size) (hx : x ∉ xs) :
    Calls Try.prog 40 #[.slice (some ⟨g, 0, none⟩) xs.length cap, .int .i64 x] w fun e w' => ∃ v, e = .returned v ∧ IntsAt w' w.heap.size v (putI x xs) ∧ Below w.heap.size w w' := by
  obtain ⟨i0, hi, hi0, hi1, hi2⟩ := info_parts info3
  have HO0 := Lib.hid (nil_row w)
  have hln : 0 < xs.length := List.length_pos_iff.2 h0
  have hpl := posI_le x xs
  obtain ⟨ts, hts⟩ : ∃ ts, xs.take (posI x xs) = ts := ⟨_, rfl⟩
  obtain ⟨ds, hds⟩ : ∃ ds, xs.drop (posI x xs) = ds := ⟨_, rfl⟩
  have HPUT : Hid (putI x xs = ts ++ x :: ds) := Lib.hid (by rw [putI, hts, hds])
  have hlt : ts.length = posI x xs := by rw [← hts, List.length_take]; omega
  have hld : ds.length = xs.length - posI x xs := by rw [← hds, List.length_drop]
  have hp := part_of_row h
  have HPT : Hid (PartAt (w.alloc (.cells #[] 3)) g 0 ts) := Lib.hid (by rw [← hts]; exact (hp.take _).kept hg ((Below.refl _ w).alloc (Nat.le_refl _) _))
  have HPD : Hid (PartAt w g (posI x xs) ds) := Lib.hid (by have := hp.drop (posI x xs); rw [Nat.zero_add, hds] at this; exact this)
  have HLESS := Lib.hid (fun j (hj : j < posI x xs) => posI_before hj)
  have HAT := Lib.hid (fun (hj : posI x xs < xs.length) => posI_at hj)
  have HNE := Lib.hid (fun j (hj : j < xs.length) (e : xs.getD j 0 = x) => hx (mem_of_at hj e))
  have HR := Lib.hid (fun j (hj : j < xs.length) => (h j hj).1)
  generalize putI x xs = ys at HPUT ⊢
  generalize posI x xs = P at *
  generalize hF : (fun j => xs.getD j 0) = F
  have HF : Hid (∀ j, xs.getD j 0 = F j) := Lib.hid (fun j => by rw [← hF])
  obtain ⟨L, hL⟩ : ∃ L, xs.length = L := ⟨_, rfl⟩
  rw [hL] at hl hcap hln hpl HAT HNE HR hld ⊢
  have hll : (L : Int) ≤ 1000 := by omega
  have hi4 : (cap : Int) ≤ 9223372036854775807 := by unfold maxLen at hcm; omega
  have hlc : (L : Int) ≤ (cap : Int) := by omega
  have hPL : (P : Int) ≤ (L : Int) := by omega
  have hPC : (P : Int) ≤ (cap : Int) := by omega
  have hc0 : ¬ (cap = 0) := by omega
  clear hp h hts hds hF hL h0 hx
  go_enter Try.func40, Try.ntmps40
  go_wp2_with fail
  go_loop [5] (fun i => ∃ j : Nat, j ≤ P ∧ i = .int .i64 j) (fun i => P - (RowKit.intOf i).toNat)
  case atStart => exact ⟨0, Nat.zero_le _, rfl⟩
  case round =>
    obtain ⟨j, hj, rfl⟩ := hrel
    by_cases hjp : j < P
    · have q := HR.out j (by omega)
      have hv := HLESS.out j hjp
      rw [HF.out] at q hv
      generalize F j = v at q hv
      have hj1 : (j : Int) < (L : Int) := by omega
      go_wp2
      exact ⟨⟨j + 1, hjp, by go_num⟩, by simp [RowKit.intOf]; omega⟩
    · obtain rfl : j = P := by omega
      by_cases hjl : j < L
      · have q := HR.out j hjl
        have hv := HAT.out hjl
        have hn : F j ≠ x := fun e => HNE.out j hjl ((HF.out j).trans e)
        rw [HF.out] at q hv
        generalize F j = v at q hv hn
        have hj1 : (j : Int) < (L : Int) := by omega
        have hcj : ¬ (cap = j) := by omega
        have hjl2 : ¬ (L ≤ j) := by omega
        clear hjp hj HLESS HAT HNE HR HF
        go_wp2_with (at_builtin; first
          | (refine wpList_append_own _ rfl _ _ 24 rfl w.heap.size 3 i0 (.int .i64 0) 1 8 Try.underlying24 hi hi0 hi1 hi2 rfl (by decide) _ _ _ rfl HO0.out ⟨g, 0, none⟩ _ _ (ts.map (Value.int .i64)) rfl (by simp [hlt]) HPT.out (ints_one ts) (by unfold maxLen; omega) (by omega) (by simp) ?_; intro v1 w1 hown1 hgrow1 _; have hbl1 : Below w.heap.size w w1 := ((Below.refl _ w).alloc (Nat.le_refl _) _).grown hgrow1 (by simp) (fun k e => (HO0.out.lt k e).1); have HB1 := Lib.hid hbl1; have HO1 := Lib.hid hown1; clear HO0 hown1 hgrow1 hbl1)
          | (refine wpList_append_own _ rfl _ _ 24 rfl w.heap.size 3 i0 (.int .i64 0) 1 8 Try.underlying24 hi hi0 hi1 hi2 rfl (by decide) _ _ _ rfl (HO1.out.alloc _) ⟨w1.heap.size, 0, none⟩ 1 1 [.int .i64 x] rfl rfl (fun j u hu => new_int _ _ _ hu) (by simp [Value.oneCell']) (by unfold maxLen; omega) (by omega) (by have := HB1.out.size; simp; omega) ?_; intro v2 w2 hown2 hgrow2 _; have hbl2 : Below w.heap.size w w2 := (HB1.out.alloc HB1.out.size _).grown hgrow2 (by have := HB1.out.size; simp; omega) (fun k e => (HO1.out.lt k e).1); have HB2 := Lib.hid hbl2; have HO2 := Lib.hid hown2; have HPD2 := Lib.hid (HPD.out.kept hg hbl2); clear HO1 hown2 hgrow2 hbl2)
          | (refine wpList_append_own _ rfl _ _ 24 rfl w.heap.size 3 i0 (.int .i64 0) 1 8 Try.underlying24 hi hi0 hi1 hi2 rfl (by decide) _ _ _ rfl HO2.out _ _ _ (ds.map (Value.int .i64)) rfl (by simp [hld]) HPD2.out (ints_one ds) (by unfold maxLen; omega) (by omega) HB2.out.size ?_; intro v3 w3 hown3 hgrow3 _; have hbl3 : Below w.heap.size w w3 := HB2.out.grown hgrow3 HB2.out.size (fun k e => (HO2.out.lt k e).1); have HB3 := Lib.hid hbl3; have HO3 := Lib.hid hown3; clear HO2 hown3 hgrow3 hbl3))
        go_ret
        refine ⟨v3, rfl, ?_, HB3.out⟩
        have h3 := HO3.out
        unfold IntsAt
        rw [HPUT.out]
        simpa [hlt, hld, Nat.add_assoc, Nat.add_comm, Nat.add_left_comm] using h3
      · obtain rfl : j = L := by omega
        have hj1 : ¬ ((j : Int) < (j : Int)) := by omega
        clear hjp hj HLESS HAT HNE HR HF hjl
        by_cases hcj : cap = j
        · subst hcj
          obtain rfl : ds = [] := List.eq_nil_of_length_eq_zero (by rw [hld]; omega)
          go_wp2_with (at_builtin; first
            | (refine wpList_append_own _ rfl _ _ 24 rfl w.heap.size 3 i0 (.int .i64 0) 1 8 Try.underlying24 hi hi0 hi1 hi2 rfl (by decide) _ _ _ rfl HO0.out ⟨g, 0, none⟩ _ _ (ts.map (Value.int .i64)) rfl (by simp [hlt]) HPT.out (ints_one ts) (by unfold maxLen; omega) (by omega) (by simp) ?_; intro v1 w1 hown1 hgrow1 _; have hbl1 : Below w.heap.size w w1 := ((Below.refl _ w).alloc (Nat.le_refl _) _).grown hgrow1 (by simp) (fun k e => (HO0.out.lt k e).1); have HB1 := Lib.hid hbl1; have HO1 := Lib.hid hown1; clear HO0 hown1 hgrow1 hbl1)
            | (refine wpList_append_own _ rfl _ _ 24 rfl w.heap.size 3 i0 (.int .i64 0) 1 8 Try.underlying24 hi hi0 hi1 hi2 rfl (by decide) _ _ _ rfl (HO1.out.alloc _) ⟨w1.heap.size, 0, none⟩ 1 1 [.int .i64 x] rfl rfl (fun j u hu => new_int _ _ _ hu) (by simp [Value.oneCell']) (by unfold maxLen; omega) (by omega) (by have := HB1.out.size; simp; omega) ?_; intro v2 w2 hown2 hgrow2 _; have hbl2 : Below w.heap.size w w2 := (HB1.out.alloc HB1.out.size _).grown hgrow2 (by have := HB1.out.size; simp; omega) (fun k e => (HO1.out.lt k e).1); have HB2 := Lib.hid hbl2; have HO2 := Lib.hid hown2; have HPD2 := Lib.hid (HPD.out.kept hg hbl2); clear HO1 hown2 hgrow2 hbl2)
            | (refine wpList_append_own _ rfl _ _ 24 rfl w.heap.size 3 i0 (.int .i64 0) 1 8 Try.underlying24 hi hi0 hi1 hi2 rfl (by decide) _ _ _ rfl HO2.out _ _ _ (([] : List Int).map (Value.int .i64)) rfl (by simp) (fun j u hu => by simp at hu) (ints_one []) (by unfold maxLen; omega) (by omega) HB2.out.size ?_; intro v3 w3 hown3 hgrow3 _; have hbl3 : Below w.heap.size w w3 := HB2.out.grown hgrow3 HB2.out.size (fun k e => (HO2.out.lt k e).1); have HB3 := Lib.hid hbl3; have HO3 := Lib.hid hown3; clear HO2 hown3 hgrow3 hbl3))
          go_ret
          refine ⟨v3, rfl, ?_, HB3.out⟩
          have h3 := HO3.out
          unfold IntsAt
          rw [HPUT.out]
          simpa [hlt, hld, Nat.add_assoc, Nat.add_comm, Nat.add_left_comm] using h3
        · skip
          go_wp2_with (at_builtin; first
            | (refine wpList_append_own _ rfl _ _ 24 rfl w.heap.size 3 i0 (.int .i64 0) 1 8 Try.underlying24 hi hi0 hi1 hi2 rfl (by decide) _ _ _ rfl HO0.out ⟨g, 0, none⟩ _ _ (ts.map (Value.int .i64)) rfl (by simp [hlt]) HPT.out (ints_one ts) (by unfold maxLen; omega) (by omega) (by simp) ?_; intro v1 w1 hown1 hgrow1 _; have hbl1 : Below w.heap.size w w1 := ((Below.refl _ w).alloc (Nat.le_refl _) _).grown hgrow1 (by simp) (fun k e => (HO0.out.lt k e).1); have HB1 := Lib.hid hbl1; have HO1 := Lib.hid hown1; clear HO0 hown1 hgrow1 hbl1)
            | (refine wpList_append_own _ rfl _ _ 24 rfl w.heap.size 3 i0 (.int .i64 0) 1 8 Try.underlying24 hi hi0 hi1 hi2 rfl (by decide) _ _ _ rfl (HO1.out.alloc _) ⟨w1.heap.size, 0, none⟩ 1 1 [.int .i64 x] rfl rfl (fun j u hu => new_int _ _ _ hu) (by simp [Value.oneCell']) (by unfold maxLen; omega) (by omega) (by have := HB1.out.size; simp; omega) ?_; intro v2 w2 hown2 hgrow2 _; have hbl2 : Below w.heap.size w w2 := (HB1.out.alloc HB1.out.size _).grown hgrow2 (by have := HB1.out.size; simp; omega) (fun k e => (HO1.out.lt k e).1); have HB2 := Lib.hid hbl2; have HO2 := Lib.hid hown2; have HPD2 := Lib.hid (HPD.out.kept hg hbl2); clear HO1 hown2 hgrow2 hbl2)
            | (refine wpList_append_own _ rfl _ _ 24 rfl w.heap.size 3 i0 (.int .i64 0) 1 8 Try.underlying24 hi hi0 hi1 hi2 rfl (by decide) _ _ _ rfl HO2.out _ _ _ (ds.map (Value.int .i64)) rfl (by simp [hld]) HPD2.out (ints_one ds) (by unfold maxLen; omega) (by omega) HB2.out.size ?_; intro v3 w3 hown3 hgrow3 _; have hbl3 : Below w.heap.size w w3 := HB2.out.grown hgrow3 HB2.out.size (fun k e => (HO2.out.lt k e).1); have HB3 := Lib.hid hbl3; have HO3 := Lib.hid hown3; clear HO2 hown3 hgrow3 hbl3))
          go_ret
          refine ⟨v3, rfl, ?_, HB3.out⟩
          have h3 := HO3.out
          unfold IntsAt
          rw [HPUT.out]
          simpa [hlt, hld, Nat.add_assoc, Nat.add_comm, Nat.add_left_comm] using h3
/-- A list that is nil just where it has nothing. -/
def UpAt (w : World) (B : Nat) (v : Value) (xs : List Int) : Prop := (v = .slice none 0 0 ∧ xs = []) ∨ (xs ≠ [] ∧ IntsAt w B v xs)
theorem UpAt.isAt {w : World} {B : Nat} {v : Value} {xs : List Int} (h : UpAt w B v xs) : IntsAt w B v xs := by
  rcases h with ⟨rfl, rfl⟩ | ⟨_, h⟩
  · exact World.ownsRow_nil _ _ _ _
  · exact h
theorem UpAt.kept {w w' : World} {B : Nat} {v : Value} {xs : List Int} (h : UpAt w B v xs) (hb : Below w.heap.size w w') : UpAt w' B v xs := by
  rcases h with h | ⟨h1, h2⟩
  · exact .inl h
  · exact .inr ⟨h1, ownsRow_kept h2 hb⟩
theorem l1Has_up {w : World} {B : Nat} {v : Value} {xs : List Int} (x : Int) (h : UpAt w B v xs) (hl : xs.length ≤ 100000) :
    Calls Try.prog 35 #[v, .int .i64 x] w fun e w' => e = .returned (.bool (decide (x ∈ xs))) ∧ w = w' := by
  rcases h with ⟨rfl, rfl⟩ | ⟨h1, h2⟩
  · simpa using l1Has_nil x w
  · obtain ⟨g, cap, rfl, _, _, _, _, hr⟩ := ints_row h2 (List.length_pos_iff.2 h1)
    exact l1Has_row xs x g cap w hl hr
theorem l1Put_up {w : World} {B : Nat} {v : Value} {xs : List Int} (x : Int) (h : UpAt w B v xs) (hl : xs.length ≤ 1000) (hx : x ∉ xs) :
    Calls Try.prog 40 #[v, .int .i64 x] w fun e w' => ∃ v', e = .returned v' ∧ IntsAt w' w.heap.size v' (putI x xs) ∧ Below w.heap.size w w' := by
  rcases h with ⟨rfl, rfl⟩ | ⟨h1, h2⟩
  · exact l1Put_nil x w
  · obtain ⟨g, cap, rfl, _, hg, hc, hcm, hr⟩ := ints_row h2 (List.length_pos_iff.2 h1)
    exact l1Put_row xs x g cap w h1 hl hc hcm hr hg hx
theorem first_cell {w : World} {B : Nat} {v : Value} {x : Int} {xs : List Int} (h : IntsAt w B v xs) (hx : xs = x :: xs.tail) : ∃ g n cap, v = .slice (some ⟨g, 0, none⟩) (n + 1) cap ∧ B ≤ g ∧ g < w.heap.size ∧ n ≤ maxLen ∧ w.cell? ⟨g, 0, none⟩ = some (.int .i64 x) := by
  have hp : 0 < xs.length := by rw [hx]; simp
  obtain ⟨g, cap, rfl, h1, h2, h3, h4, hr⟩ := ints_row h hp
  refine ⟨g, xs.length - 1, cap, by rw [Nat.sub_add_cancel hp], h1, h2, by omega, ?_⟩
  have := (hr 0 hp).1
  rw [hx] at this
  exact this
end Go.Proofs.Ytpfclanblcngfaa
