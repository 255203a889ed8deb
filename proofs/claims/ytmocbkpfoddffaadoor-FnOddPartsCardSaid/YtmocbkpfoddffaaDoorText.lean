/-
  'MapText' of both.
-/
import Derived.Test.YtmocbkpfoddffaaDoorLeaf
import Derived.Test.YtmocbkpfoddffaaDoorShelf
import Derived.Laws.IdiomStrings
import Derived.OwnWalk
import Derived.WalkLawsBesides
namespace Go.Proofs.YtmocbkpfoddffaaDoor
open Go.RowKit
set_option linter.unusedVariables false

/-- The digit of a number 0..9. -/
def dig (n : Int) : UInt8 := UInt8.ofNat (48 + n.toNat)
/-- A number with its sign. -/
def sgd (p : Int) : List UInt8 := if p < 0 then [45, dig (-p)] else [43, dig p]
def byt (l : List UInt8) : ByteArray := ⟨l.toArray⟩
theorem byt_add (a b : List UInt8) (h : a.length + b.length ≤ 1000) (w : World) : (Op.stringOp .add (byt a) (byt b)).run Tryd.prog w = .ok (.string (byt (a ++ b))) w := by
  rw [run_string_add_sum w _ _ (by
    have h1 : (byt a).size = a.length := by show a.toArray.size = _; simp
    have h2 : (byt b).size = b.length := by show b.toArray.size = _; simp
    omega)]
  have : byt a ++ byt b = byt (a ++ b) := by
    unfold byt
    rw [ByteArray.mk_append_mk]
  rw [this]
theorem itoa_one {n : Int} (h1 : 1 ≤ n) (h9 : n ≤ 9) : (⟨(Lib.itoa n).toArray⟩ : ByteArray) = byt [dig n] := by
  rw [Lib.itoa, if_neg (by omega), Lib.decDigits, dif_pos (by omega)]
  rfl
theorem itoa_neg {n : Int} (h1 : -9 ≤ n) (h9 : n ≤ -1) : (⟨(Lib.itoa n).toArray⟩ : ByteArray) = byt [45, dig (-n)] := by
  rw [Lib.itoa, if_pos (by omega), Lib.decDigits, dif_pos (by omega)]
  have : n.natAbs = (-n).toNat := by omega
  rw [this]
  rfl
theorem small_one {n : Nat} (h9 : n ≤ 9) : (⟨(Lib.decDigits n).toArray⟩ : ByteArray) = byt [dig n] := by
  rw [Lib.decDigits, dif_pos (by omega)]
  rfl
theorem ret_byt {a b : ByteArray} (h : a = b) : Ending.returned (.string a) = .returned (.string b) := by rw [h]
theorem below_one {w : World} (k : Nat) (os : Array Obj) : Below w.heap.size w (Go.Sort.grow (w.drewN k) os) :=
  ⟨rfl, rfl, rfl, by simp [Go.Sort.grow], fun i hi => by simp only [Go.Sort.grow, World.heap_drewN]; exact Array.getElem?_append_left hi⟩

theorem itoa_any (n : Int) (h1 : 1 ≤ n) (h9 : n ≤ 9) (w : World) :
    Calls Tryd.prog 40 #[.int .i64 n] w fun e w' => e = .returned (.string (byt [dig n])) ∧ w = w' := by
  obtain ⟨k, rfl⟩ : ∃ k : Nat, n = k := ⟨n.toNat, by omega⟩
  refine (Tryd.strconv_Itoa_small k (by omega) w).mono ?_
  rintro e w' ⟨rfl, rfl⟩
  exact ⟨ret_byt (small_one (by omega)), rfl⟩
abbrev Tab (w : World) : Prop := Lib.TabIs Tryd.prog w "internal/strconv.uint64pow10" .u64 Lib.pow10Tab
theorem itoa_min (n : Int) (h1 : -9 ≤ n) (h9 : n ≤ -1) (w : World) (htab : Tab w) :
    Calls Tryd.prog 40 #[.int .i64 n] w fun e w' => e = .returned (.string (byt [45, dig (-n)])) ∧ Below w.heap.size w w' := by
  refine (Tryd.strconv_Itoa n (by omega) (by omega) w htab).mono ?_
  rintro e w' ⟨rfl, k, os, rfl⟩
  exact ⟨ret_byt (itoa_neg h1 h9), below_one k os⟩

theorem signed_any (n : Int) (h1 : -9 ≤ n) (h9 : n ≤ 9) (h0 : n ≠ 0) (w : World) (htab : Tab w) :
    Calls Tryd.prog 41 #[.int .i64 n] w fun e w' => e = .returned (.string (byt (sgd n))) ∧ Below w.heap.size w w' := by
  by_cases hn : n < 0
  · have hs : sgd n = [45, dig (-n)] := by rw [sgd, if_pos hn]
    have HS := Lib.hid hs
    have HT := Lib.hid htab
    clear hs htab
    go_enter Tryd.func41, Tryd.ntmps41
    go_wp2_with (go_at_call 40; refine (itoa_min n h1 (by omega) _ HT.out).mono ?_; rintro e w' ⟨rfl, hb⟩)
    go_ret
    exact ⟨ret_byt (by rw [HS.out]), hb⟩
  · have hs : sgd n = [43, dig n] := by rw [sgd, if_neg hn]
    have HS := Lib.hid hs
    have hadd : ∀ w, (Op.stringOp .add ⟨#[43]⟩ (byt [dig n])).run Tryd.prog w = .ok (.string (byt [43, dig n])) w := fun w => byt_add [43] [dig n] (by simp) w
    clear hs htab
    go_enter Tryd.func41, Tryd.ntmps41
    go_wp2_with (go_at_call 40; refine (itoa_any n (by omega) h9 _).mono ?_; rintro e w' ⟨rfl, rfl⟩)
    go_ret
    exact ⟨ret_byt (by rw [HS.out]), Below.refl _ _⟩

theorem tab_below {w w' : World} (h : Tab w) (hb : Below w.heap.size w w') : Tab w' := by
  unfold Tab Lib.TabIs World.var? at h ⊢
  cases hg : Tryd.prog.globalNamed "internal/strconv.uint64pow10" with
  | none => rw [hg] at h; cases h
  | some g =>
    rw [hg] at h
    simp only [Option.bind_some] at h ⊢
    rcases Nat.lt_or_ge g w.heap.size with h' | h'
    · rw [hb.block _ h']
      exact h
    · rw [Array.getElem?_eq_none h'] at h
      cases h

theorem dig_nat {n : Int} (h1 : 1 ≤ n) (h9 : n ≤ 9) : ((dig n).toNat : Int) = 48 + n := by
  unfold dig
  rw [UInt8.toNat_ofNat_of_lt' (by show _ < 256; omega)]
  omega

theorem l1Num_any (n : Int) (h1 : 1 ≤ n) (h9 : n ≤ 9) (w : World) :
    Calls Tryd.prog 60 #[.int .i64 n] w fun e w' => e = .returned (.string (byt [dig n])) ∧ Below w.heap.size w w' := by
  have hlt : n < 10 := by omega
  have hd := dig_nat h1 h9
  have hconv : (convert 22 9 (.slice (some ⟨w.heap.size, 0, none⟩) 1 1)).run Tryd.prog (w.alloc (.cells #[.int .u8 (48 + n)] 5)) = .ok (.string (byt [dig n])) (w.alloc (.cells #[.int .u8 (48 + n)] 5)) := by
    have := run_convert_bytes_back (P := Tryd.prog) (w.alloc (.cells #[.int .u8 (48 + n)] 5)) 22 9 5 ⟨w.heap.size, 0, none⟩ 1 [dig n] Tryd.underlying22 Tryd.underlying5 Tryd.underlying9 (fun i hi => by
      obtain rfl : i = 0 := by simpa using hi
      have e : (⟨w.heap.size, 0, none⟩ : Addr).add 0 = ⟨w.heap.size, 0, none⟩ := by simp [Addr.add]
      rw [e]
      show _ = some (Value.int .u8 ((dig n).toNat : Int))
      rw [hd]
      go_simp)
    exact this
  clear hd
  go_enter Tryd.func60, Tryd.ntmps60
  go_wp2_with fail
  go_ret
  exact ⟨rfl, (Below.refl _ w).alloc (Nat.le_refl _) _⟩

theorem l1Int_any (n : Int) (h1 : -9 ≤ n) (h9 : n ≤ 9) (h0 : n ≠ 0) (w : World) :
    Calls Tryd.prog 61 #[.int .i64 n] w fun e w' => e = .returned (.string (byt (if n < 0 then [45, dig (-n)] else [dig n]))) ∧ Below w.heap.size w w' := by
  by_cases hn : n < 0
  · have hadd : ∀ w, (Op.stringOp .add ⟨#[45]⟩ (byt [dig (-n)])).run Tryd.prog w = .ok (.string (byt [45, dig (-n)])) w := fun w => byt_add [45] [dig (-n)] (by simp) w
    rw [if_pos hn]
    go_enter Tryd.func61, Tryd.ntmps61
    go_wp2_with (go_at_call 60; refine (l1Num_any (-n) (by omega) (by omega) _).mono ?_; rintro e w' ⟨rfl, hb⟩)
    go_ret
    exact ⟨rfl, hb⟩
  · rw [if_neg hn]
    go_enter Tryd.func61, Tryd.ntmps61
    go_wp2_with (go_at_call 60; refine (l1Num_any n (by omega) (by omega) _).mono ?_; rintro e w' ⟨rfl, hb⟩)
    go_ret
    exact ⟨rfl, hb⟩
end Go.Proofs.YtmocbkpfoddffaaDoor
