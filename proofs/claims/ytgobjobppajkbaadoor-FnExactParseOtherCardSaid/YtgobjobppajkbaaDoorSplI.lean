/-
  'strings.SplitSeq' AT A SEPARATOR OF ONE BYTE: its iterator gives the pieces.
-/
import Derived.Test.YtgobjobppajkbaaDoorSpl
import Derived.Test.YtgobjobppajkbaaDoorRangeB
import Derived.Test.YtgobjobppajkbaaDoorShelf
import Derived.OwnWalkIn
import Derived.TacticsInMore
import Derived.RegionIn
import Derived.LoopNIn
import Derived.LoopIn
import Derived.RangeFuncCalls
import Derived.RangeFuncBound
import Derived.RangeFuncBox
import Derived.Shelf.RegionOpen
namespace Go.Proofs.YtgobjobppajkbaaDoor
open Go.RowKit Go.Shelf
attribute [local go_sem] Oper.semAt_some
set_option linter.unusedVariables false

/-- The pieces of a text. -/
def spB (c : UInt8) (s : ByteArray) : List ByteArray := (spl c s.data.toList).map byt
/-- What the iterator has captured: the separator, the room for it, and the rest of the text. -/
def CapS (bs b bv : Nat) (c : UInt8) (s : ByteArray) (pre : List ByteArray) (W : World) : Prop :=
  W.cell? ⟨bs, 0, none⟩ = some (.string ⟨#[c]⟩) ∧ W.cell? ⟨bv, 0, none⟩ = some (.int .i64 0) ∧ W.frozen? ⟨b, 0, none⟩ = false ∧ (pre = [] → W.cell? ⟨b, 0, none⟩ = some (.string s)) ∧ bs < W.heap.size ∧ bv < W.heap.size ∧ b < W.heap.size
theorem CapS.of {bs b bv : Nat} {c : UInt8} {s : ByteArray} {pre : List ByteArray} {A C : World} (h : CapS bs b bv c s pre A) (hs : A.heap.size ≤ C.heap.size) (h1 : C.heap[bs]? = A.heap[bs]?) (h2 : C.heap[b]? = A.heap[b]?) (h3 : C.heap[bv]? = A.heap[bv]?) : CapS bs b bv c s pre C :=
  ⟨(World.cell?_of_block (a := ⟨bs, 0, none⟩) h1).trans h.1, (World.cell?_of_block (a := ⟨bv, 0, none⟩) h3).trans h.2.1, (World.frozen?_of_block (a := ⟨b, 0, none⟩) h2).trans h.2.2.1, fun e => (World.cell?_of_block (a := ⟨b, 0, none⟩) h2).trans (h.2.2.2.1 e), Nat.lt_of_lt_of_le h.2.2.2.2.1 hs, Nat.lt_of_lt_of_le h.2.2.2.2.2.1 hs, Nat.lt_of_lt_of_le h.2.2.2.2.2.2 hs⟩
theorem CapS.below {bs b bv N : Nat} {c : UInt8} {s : ByteArray} {pre : List ByteArray} {A C : World} (h : CapS bs b bv c s pre A) (h1 : bs < N) (h2 : b < N) (h3 : bv < N) (hb : Below N A C) : CapS bs b bv c s pre C :=
  h.of hb.size (hb.block bs h1) (hb.block b h2) (hb.block bv h3)
theorem CapS.next {bs b bv : Nat} {c : UInt8} {s : ByteArray} {pre : List ByteArray} {A : World} (h : CapS bs b bv c s pre A) (x : ByteArray) : CapS bs b bv c s (pre ++ [x]) A :=
  ⟨h.1, h.2.1, h.2.2.1, fun e => by simp at e, h.2.2.2.2⟩
theorem CapS.set {bs b bv : Nat} (hsb : bs ≠ b) (hvb : bv ≠ b) {c : UInt8} {s : ByteArray} {pre : List ByteArray} {A : World} (h : CapS bs b bv c s pre A) (hn : pre ≠ []) (v : Value) : CapS bs b bv c s pre (A.setCell ⟨b, 0, none⟩ v) := by
  obtain ⟨h1, h2, h3, _, h5, h6, h7⟩ := h
  refine ⟨(World.cell?_setCell_other _ _ _ _ (by intro e; exact hsb (congrArg Addr.block e).symm)).trans h1, (World.cell?_setCell_other _ _ _ _ (by intro e; exact hvb (congrArg Addr.block e).symm)).trans h2, by rw [World.frozen?_setCell]; exact h3, fun e => (hn e).elim, by simpa using h5, by simpa using h6, by simpa using h7⟩
theorem ext_take (s : ByteArray) (i : Nat) : s.extract 0 i = byt (s.data.toList.take i) := by
  rw [Lib.extract_eq]; simp [byt]
theorem ext_drop (s : ByteArray) (i : Nat) : s.extract i s.size = byt (s.data.toList.drop i) := by
  have ht : List.take (s.size - i) (List.drop i s.data.toList) = List.drop i s.data.toList :=
    List.take_of_length_le (by rw [List.length_drop, ← Lib.size_eq]; exact Nat.le_refl _)
  rw [Lib.extract_eq, ht]
  rfl
theorem byt_toList (l : List UInt8) : (byt l).data.toList = l := rfl
theorem byt_size (l : List UInt8) : (byt l).size = l.length := by simp [byt, ByteArray.size]
theorem spB_miss {c : UInt8} {s : ByteArray} (h : Lib.indexByte s.data.toList c = -1) : spB c s = [s] := by
  rw [spB, spl_miss h]
  simp [byt]
theorem spB_hit {c : UInt8} {s : ByteArray} {i : Nat} (h : Lib.indexByte s.data.toList c = (i : Int)) : spB c s = s.extract 0 i :: spB c (s.extract (i + 1) s.size) := by
  rw [spB, spl_hit h, ext_take, ext_drop, spB, byt_toList]
  rfl
theorem idx_room {c : UInt8} : ∀ {l : List UInt8} {i : Nat}, Lib.indexByte l c = (i : Int) → i + 1 ≤ l.length
  | [], i, h => by simp [Lib.indexByte] at h
  | x :: l, i, h => by
    have hge := Lib.indexByte_ge l c
    unfold Lib.indexByte at h
    by_cases hx : x = c
    · subst hx
      simp at h
      simp; omega
    · have hx' : (x == c) = false := by simpa using hx
      rw [hx'] at h
      by_cases hi : Lib.indexByte l c = -1
      · have hi' : (Lib.indexByte l c == -1) = true := by simpa using hi
        rw [hi'] at h
        simp at h
      · have hi' : (Lib.indexByte l c == -1) = false := by simpa using hi
        rw [hi'] at h
        simp at h
        obtain ⟨k, rfl⟩ : ∃ k, i = k + 1 := ⟨i - 1, by omega⟩
        have := idx_room (c := c) (l := l) (i := k) (by omega)
        simp; omega
theorem bsize (s : ByteArray) : s.size = s.data.toList.length := by rw [Array.length_toList]; rfl

set_option maxRecDepth 100000 in
set_option maxHeartbeats 4000000 in
theorem iter_split (bs b bv : Nat) (hsb : bs ≠ b) (hvb : bv ≠ b) (c : UInt8) (s : ByteArray) (hs : s.size ≤ 1048576) :
    SeqB 9 Tryd.prog 132 #[.pointer (some ⟨bs, 0, none⟩), .pointer (some ⟨b, 0, none⟩), .pointer (some ⟨bv, 0, none⟩)] b (CapS bs b bv c s) (spB c s) := by
  intro l J Jx W hcap hY hJ0
  have HIX := Lib.hid (fun r w => Tryd.strings_Index_one r c w)
  obtain ⟨c0, c1, c2, c3, l0, l1, l2⟩ := hcap
  have c4 := c3 rfl
  have HC0 : Hid (CapS bs b bv c s [] W) := Lib.hid ⟨c0, c1, c2, c3, l0, l1, l2⟩
  clear c3
  refine callsIn_of_wp Tryd.func132 rfl trivial ?_ rfl
  simp only [Tryd.ntmps132, List.size_toArray, List.length_cons, List.length_nil, Nat.reduceAdd, Nat.reduceSub, Array.replicate_succ, Array.replicate_zero, List.push_toArray, List.append_toArray, List.nil_append, List.cons_append]
  gi_wp2_with fail
  gi_loopw [7, 8] (fun _ _ wr => ∃ (pre : List ByteArray) (r : ByteArray) (W0 : World), spB c s = pre ++ spB c r ∧ r.size ≤ 1048576 ∧ J pre W0 ∧ Touch b (b + 1) W0 wr ∧ CapS bs b bv c s pre wr ∧ wr.cell? ⟨b, 0, none⟩ = some (.string r)) (fun _ _ w => match w.cell? ⟨b, 0, none⟩ with | some (.string r) => r.size | _ => 0)
  case atStart => exact ⟨[], s, W, rfl, hs, hJ0, Touch.refl _ _ _, HC0.out, c4⟩
  case round =>
    clear c0 c1 c2 c4 l0 l1 l2 HC0 hJ0
    obtain ⟨pre, r, W0, hS, hr, hJ, ht, hcap, hc⟩ := hrel
    have HS := Lib.hid hS
    have HI := Lib.hid (HIX.out r wr)
    have HCAP : Hid (CapS bs b bv c s pre wr) := Lib.hid hcap
    obtain ⟨c0, c1, c2, _, l0, l1, l2⟩ := hcap
    by_cases hi : Lib.indexByte r.data.toList c = -1
    · rw [hi] at HI
      have hsp := spB_miss hi
      rw [hsp] at hS
      have hpre : pre ++ [r] <+: spB c s := by rw [hS]; exact List.prefix_refl _
      obtain ⟨fn, tmps, assign, body, hy, hR⟩ := hY pre r W0 wr hJ ht hpre (HCAP.out.next r)
      have HP := Lib.hid hpre
      have HS2 := Lib.hid hS
      have HRR := Lib.hid hR
      clear hJ hY hpre hS hi hsp ht hR
      gi_wp2_with (refine ⟨trivial, ?_⟩; gi_at_call 134; refine (callsIn_wide.2 HI.out).mono ?_; rintro e w' ⟨rfl, rfl⟩)
      refine HRR.out.mono ?_
      rintro e W' (⟨rfl, hJ', hsz', hb', hcap'⟩ | ⟨rfl, hJx'⟩)
      · gi_wp2_with fail
        go_end0
        exact ⟨⟨_, rfl⟩, W', Touch.refl _ _ _, .inl (by rw [HS2.out]; exact hJ')⟩
      · gi_wp2_with fail
        go_end0
        exact ⟨⟨_, rfl⟩, W', Touch.refl _ _ _, .inr ⟨_, HP.out, hJx'⟩⟩
    · obtain ⟨i, hii⟩ : ∃ i : Nat, Lib.indexByte r.data.toList c = (i : Int) := ⟨(Lib.indexByte r.data.toList c).toNat, by have := Lib.indexByte_ge r.data.toList c; omega⟩
      rw [hii] at HI
      have hroom := idx_room hii
      rw [← bsize] at hroom
      have hsp := spB_hit hii
      rw [hsp] at hS
      have HSN : Hid (spB c s = (pre ++ [r.extract 0 i]) ++ spB c (r.extract (i + 1) r.size)) := Lib.hid (by rw [hS]; simp)
      have hpre : pre ++ [r.extract 0 i] <+: spB c s := by rw [HSN.out]; exact List.prefix_append _ _
      have HRS : Hid ((r.extract (i + 1) r.size).size ≤ 1048576 ∧ (r.extract (i + 1) r.size).size < r.size) := Lib.hid (by
        rw [ext_drop, byt_size, List.length_drop, ← bsize]; omega)
      obtain ⟨fn, tmps, assign, body, hy, hR⟩ := hY pre (r.extract 0 i) W0 wr hJ ht hpre (HCAP.out.next _)
      have HP := Lib.hid hpre
      have HRR := Lib.hid hR
      have HC := Lib.hid hc
      have c3 : (0 : Int) ≤ (i : Int) := by omega
      have c4 : (i : Int) ≤ (r.size : Int) := by omega
      have c5 : (0 : Int) ≤ (i : Int) + 1 := by omega
      have c6 : (i : Int) + 1 ≤ (r.size : Int) := by omega
      have c7 : (i : Int) ≤ 1048576 := by omega
      have c8 : ¬ ((i : Int) < 0) := by omega
      clear hJ hY hpre hS hi hsp ht hR
      gi_wp2_with (refine ⟨trivial, ?_⟩; gi_at_call 134; refine (callsIn_wide.2 HI.out).mono ?_; rintro e w' ⟨rfl, rfl⟩)
      refine HRR.out.mono ?_
      rintro e W' (⟨rfl, hJ', hsz', hb', hcap'⟩ | ⟨rfl, hJx'⟩)
      · have HCN := Lib.hid hcap'
        obtain ⟨d0, d1, d2, _, m0, m1, m2⟩ := hcap'
        have hc2 := (World.cell?_of_block (a := ⟨b, 0, none⟩) hb').trans HC.out
        have HJN := Lib.hid hJ'
        have HC2 := Lib.hid hc2
        clear c0 c1 c2 l0 l1 l2 hc hb' hJ' hy
        gi_wp2_with fail
        have hset : (W'.setCell ⟨b, 0, none⟩ (.string (r.extract (i + 1) r.size))).cell? ⟨b, 0, none⟩ = some (.string (r.extract (i + 1) r.size)) := World.cell?_setCell_same' _ _ _ (by rw [HC2.out]; rfl)
        refine ⟨⟨pre ++ [r.extract 0 i], r.extract (i + 1) r.size, W', HSN.out, HRS.out.1, HJN.out, (Touch.refl _ _ _).setCell (p := ⟨b, 0, none⟩) (Nat.le_refl _) (Nat.lt_succ_self _) _, HCN.out.set hsb hvb (by simp) _, hset⟩, ?_⟩
        rw [hset, HC.out]
        exact HRS.out.2
      · gi_wp2_with fail
        refine bodyPost_ret (results_none rfl _ _ _) rfl ?_
        exact ⟨⟨_, rfl⟩, W', Touch.refl _ _ _, .inr ⟨_, HP.out, hJx'⟩⟩

theorem splitSeq0 (s sep : ByteArray) (w : World) :
    Calls Tryd.prog 114 #[.string s, .string sep, .int .i64 0] w fun e w' => e = .returned (.func (.func 132) #[] #[.pointer (some ⟨w.heap.size + 1, 0, none⟩), .pointer (some ⟨w.heap.size, 0, none⟩), .pointer (some ⟨w.heap.size + 1 + 1, 0, none⟩)]) ∧ w' = (((w.alloc (.cells #[.string s] 9)).alloc (.cells #[.string sep] 9)).alloc (.cells #[.int .i64 0] 3)) := by
  go_enter Tryd.func114, Tryd.ntmps114
  go_wp2
  go_ret
  exact ⟨rfl, rfl⟩
/-- 'strings.SplitSeq': the iterator and its three boxes. -/
theorem splitSeq_any (s sep : ByteArray) (w : World) :
    Calls Tryd.prog 83 #[.string s, .string sep] w fun e w' => e = .returned (.func (.func 132) #[] #[.pointer (some ⟨w.heap.size + 1, 0, none⟩), .pointer (some ⟨w.heap.size, 0, none⟩), .pointer (some ⟨w.heap.size + 1 + 1, 0, none⟩)]) ∧ w' = (((w.alloc (.cells #[.string s] 9)).alloc (.cells #[.string sep] 9)).alloc (.cells #[.int .i64 0] 3)) := by
  go_enter Tryd.func83, Tryd.ntmps83
  go_wp2_with fail
  refine (splitSeq0 s sep _).mono ?_
  rintro e w' ⟨rfl, rfl⟩
  go_wp2_with fail
  go_ret
  exact ⟨rfl, rfl⟩
end Go.Proofs.YtgobjobppajkbaaDoor
