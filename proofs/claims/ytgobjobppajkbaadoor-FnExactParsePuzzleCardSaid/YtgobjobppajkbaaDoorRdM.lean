/-
  'readMachine'.
-/
import Derived.Test.YtgobjobppajkbaaDoorSplI
import Derived.Test.YtgobjobppajkbaaDoorCutC
import Derived.Test.YtgobjobppajkbaaDoorBx
import Derived.Test.YtgobjobppajkbaaDoorRoundW
import Derived.Deep.AppendLies
namespace Go.Proofs.YtgobjobppajkbaaDoor
open Go.RowKit Go.Shelf
attribute [local go_sem] Oper.semAt_some
set_option linter.unusedVariables false

theorem infoI : (Tryd.prog.info? 3).map (fun i => (i.zero, i.size, i.bytes)) = some (some (.int .i64 0), 1, 8) := by kernel_rfl
/-- What is read of the pieces. -/
def rdN (pre : List ByteArray) : List Int := pre.map fun x => numL (cu1 47 x.data.toList)
def rdD (pre : List ByteArray) : List Int := pre.map fun x => numL (cu2 47 x.data.toList)
theorem rdN_snoc (pre : List ByteArray) (x : ByteArray) : rdN (pre ++ [x]) = rdN pre ++ [numL (cu1 47 x.data.toList)] := by simp [rdN]
theorem rdD_snoc (pre : List ByteArray) (x : ByteArray) : rdD (pre ++ [x]) = rdD pre ++ [numL (cu2 47 x.data.toList)] := by simp [rdD]
theorem rdN_len (pre : List ByteArray) : (rdN pre).length = pre.length := by simp [rdN]
theorem rdD_len (pre : List ByteArray) : (rdD pre).length = pre.length := by simp [rdD]
theorem spB_len (c : UInt8) (s : ByteArray) : (spB c s).length ≤ s.size + 1 := by
  rw [spB, List.length_map, bsize]; exact spl_len c _
theorem spB_mem (c : UInt8) (s : ByteArray) : ∀ x ∈ spB c s, x.size ≤ s.size := by
  intro x hx
  rw [spB, List.mem_map] at hx
  obtain ⟨p, hp, rfl⟩ := hx
  rw [byt_size, bsize]
  exact spl_mem c _ p hp

theorem own_formL {w : World} {B : Nat} {v : Value} {n : Nat} {vs : List Value} (h : w.ownsRow B 3 1 v n vs) : ∃ a cap, v = .slice a n cap := by
  rcases h.2 with ⟨rfl, rfl⟩ | ⟨g, cap, cur, rfl, _⟩
  · exact ⟨none, 0, rfl⟩
  · exact ⟨_, cap, rfl⟩
theorem step_append_rd {P : Program} {ops : Array Oper} {o : Oper} {a : Act} {w : World} {K : Act → World → Prop} {Q : Exit → Act → World → Prop} {E : Prop} (hgd : o.guard = none) (s x : Operand) (t : TypeId)
    (ho : o.op = .call { callee := .builtin .append, args := #[s, x], argTypes := #[t, t] })
    (base : Nat) (e : TypeId) (i : TypeInfo) (z : Value) (size bytes : Nat) (ht : P.underlying t = some (.slice e)) (hi : P.info? e = some i) (hz : i.zero = some z)
    (hsize : i.size = size) (hby : i.bytes = bytes) (hzs : z.cells.size = size) (hsz : 0 < size)
    (v : Value) (n : Nat) (xs : List Value) (hs : a.eval s = v) (hown : w.ownsRow base e size v n xs)
    (ad : Addr) (m c : Nat) (news : List Value) (hx : a.eval x = .slice (some ad) m c) (hl : news.length = m * size) (hnews : ∀ j u, news[j]? = some u → w.cell? (ad.add j) = some u) (h1 : ∀ u ∈ news, u.oneCell' = true)
    (h63 : n + m ≤ maxLen) (hbytes : (n + m) * bytes ≤ 140737488355328) (hbase : base ≤ w.heap.size)
    (h : ∀ v' w', w'.ownsRow base e size v' (n + m) (xs ++ news) → w.grownBy w' v.ownBlock → (v'.ownBlock = v.ownBlock ∨ v'.ownBlock = some w.heap.size) → K (a.put o.dst v') w') :
    if Region.wanted o (yielded ops a.tmps) = true then Oper.wp P o a w K Q else E := by
  rw [if_pos (by simp [Region.wanted, hgd])]
  obtain ⟨v', w', hr, h2, h3, h4, h5⟩ := run_append_own_at (P := P) w base t o.type e i z size bytes ht hi hz hsize hby hzs hsz v n xs hown ad m c news hl hnews h1 h63 hbytes hbase
  unfold Oper.wp execOp
  simp only [ho, resolve, invoke, builtin, Sem.run_bind, Sem.run_pure, Result.andThen_ok, List.map_toArray, List.map_cons, List.map_nil, hs, hx, hr]
  exact h v' w' h2 h3 h5

/-- What lay below N but for one block is as it was. -/
structure KpA (N m : Nat) (A C : World) : Prop where
  os : C.os = A.os
  tape : C.tape = A.tape
  output : C.output = A.output
  size : A.heap.size ≤ C.heap.size
  block : ∀ g, g < N → g ≠ m → C.heap[g]? = A.heap[g]?
theorem KpA.of_below {N m : Nat} {A C : World} (hb : Below A.heap.size A C) (hN : N ≤ A.heap.size) : KpA N m A C := ⟨hb.os, hb.tape, hb.output, hb.size, fun g hg _ => hb.block g (by omega)⟩
theorem KpA.trans {N m : Nat} {A B C : World} (h : KpA N m A B) (k : KpA N m B C) : KpA N m A C :=
  ⟨k.os.trans h.os, k.tape.trans h.tape, k.output.trans h.output, Nat.le_trans h.size k.size, fun g hg hn => (k.block g hg hn).trans (h.block g hg hn)⟩
theorem KpA.grown {N m : Nat} {W C : World} {row : Option Nat} (h : W.grownBy C row) (hN : N ≤ W.heap.size) (hr : ∀ k, row = some k → N ≤ k) : KpA N m W C :=
  ⟨h.os, h.tape, h.output, h.size, fun g hg _ => h.block g (by omega) (fun e => by have := hr g e.symm; omega)⟩
theorem KpA.set {N m : Nat} {A C : World} (h : KpA N m A C) (k : Nat) (v : Value) : KpA N m A (C.setCell ⟨m, k, none⟩ v) :=
  ⟨h.os, h.tape, h.output, by simpa using h.size, fun g hg hn => (Below.heap_setCell _ _ _ _ (by simpa using hn)).trans (h.block g hg hn)⟩
theorem KpA.below {N m n : Nat} {A C : World} (h : KpA N m A C) (h1 : n ≤ N) (h2 : n ≤ m) : Below n A C := ⟨h.os, h.tape, h.output, h.size, fun g hg => h.block g (by omega) (by omega)⟩
/-- Behind an append to the first row. -/
theorem leaf0 {w3 w7 w5 : World} {M B : Nat} {u1 u2 : Value} {xs ys : List Int} {v0 : Int} {p5 : Option Addr} {d5 : Nat} (h : LwAt w3 B u1 u2 xs ys) (hx : BxF w3 M u1 u2) (hMB : M < B) (hB : B ≤ w3.heap.size) (hb : Below w3.heap.size w3 w7)
    (hown : w5.ownsRow B 3 1 (.slice p5 (xs.length + 1) d5) (xs.length + 1) (xs.map (Value.int .i64) ++ [.int .i64 v0])) (hg : (w7.alloc (.cells #[.int .i64 v0] 3)).grownBy w5 u1.ownBlock) (hat : (Value.slice p5 (xs.length + 1) d5).ownBlock = u1.ownBlock ∨ (Value.slice p5 (xs.length + 1) d5).ownBlock = some (w7.alloc (.cells #[.int .i64 v0] 3)).heap.size) :
    LwAt w5 B (.slice p5 (xs.length + 1) d5) u2 (xs ++ [v0]) ys ∧ BxF w5 M u1 u2 ∧ KpA B M w3 w5 := by
  have hb2 := hb.trans ((below_alloc w7 (.cells #[.int .i64 v0] 3)).mono hb.size)
  have hz := hb2.size
  exact ⟨LwAt.snoc h hb2 hown hg hat, hx.grown h.h1 hMB hb2 hg, (KpA.of_below hb2 hB).trans (KpA.grown hg (by omega) (fun k e => (World.ownsRow.lt h.h1 k e).1))⟩
theorem leaf1 {w3 w7 w5 : World} {M B : Nat} {u1 u2 : Value} {xs ys : List Int} {v0 : Int} {p5 : Option Addr} {d5 : Nat} (h : LwAt w3 B u1 u2 xs ys) (hx : BxF w3 M u1 u2) (hMB : M < B) (hB : B ≤ w3.heap.size) (hb : Below w3.heap.size w3 w7)
    (hown : w5.ownsRow B 3 1 (.slice p5 (ys.length + 1) d5) (ys.length + 1) (ys.map (Value.int .i64) ++ [.int .i64 v0])) (hg : (w7.alloc (.cells #[.int .i64 v0] 3)).grownBy w5 u2.ownBlock) (hat : (Value.slice p5 (ys.length + 1) d5).ownBlock = u2.ownBlock ∨ (Value.slice p5 (ys.length + 1) d5).ownBlock = some (w7.alloc (.cells #[.int .i64 v0] 3)).heap.size) :
    LwAt w5 B u1 (.slice p5 (ys.length + 1) d5) xs (ys ++ [v0]) ∧ BxF w5 M u1 u2 ∧ KpA B M w3 w5 := by
  have hb2 := hb.trans ((below_alloc w7 (.cells #[.int .i64 v0] 3)).mono hb.size)
  have hz := hb2.size
  exact ⟨(LwAt.snoc h.sym hb2 hown hg hat).sym, hx.grown h.h2 hMB hb2 hg, (KpA.of_below hb2 hB).trans (KpA.grown hg (by omega) (fun k e => (World.ownsRow.lt h.h2 k e).1))⟩
theorem fin0 {w : World} {M B : Nat} {u1 u2 v : Value} {xs ys : List Int} (hx : BxF w M u1 u2) (h : LwAt w B v u2 xs ys) (hMB : M < B) : BxF (w.setCell ⟨M, 0, none⟩ v) M v u2 ∧ LwAt (w.setCell ⟨M, 0, none⟩ v) B v u2 xs ys := ⟨hx.set0 v, h.set hMB v⟩
theorem fin1 {w : World} {M B : Nat} {u1 u2 v : Value} {xs ys : List Int} (hx : BxF w M u1 u2) (h : LwAt w B u1 v xs ys) (hMB : M < B) : BxF (w.setCell ⟨M, 1, none⟩ v) M u1 v ∧ LwAt (w.setCell ⟨M, 1, none⟩ v) B u1 v xs ys := ⟨hx.set1 v, h.set hMB v⟩
theorem lw_mac {w : World} {B lo n : Nat} {a1 a2 : Option Addr} {c1 c2 : Nat} {xs ys xs' ys' : List Int} (h : LwAt w B (.slice a1 n c1) (.slice a2 n c2) xs ys) (hB : lo ≤ B) (ex : xs' = xs) (ey : ys' = ys) (hx : xs.length = n) (hy : ys.length = n) :
    MacAt w lo w.heap.size (.agg #[.slice a1 n c1, .slice a2 n c2]) xs' ys' := by
  subst ex ey
  obtain ⟨p1, e1, q1, r1⟩ := h.h1.rowIn
  obtain ⟨p2, e2, q2, r2⟩ := h.h2.rowIn
  injection q1 with q1 _ q1'
  injection q2 with q2 _ q2'
  subst q1 q2 q1' q2'
  refine ⟨Nat.le_refl _, a1, c1, a2, c2, by rw [hx, hy], r1.wide hB (Nat.le_refl _), r2.wide hB (Nat.le_refl _), fun n1 n2 e => ?_⟩
  obtain ⟨g, rfl, _, _, _⟩ := r1 n1
  subst e
  exact h.ne g rfl rfl


set_option maxRecDepth 100000 in
set_option maxHeartbeats 8000000 in
theorem readMachine0 (s : ByteArray) (hs : s.size ≤ 1048576) (hne : (s.toList == [45]) = false) (w : World) (hw : Set3 w) :
    Calls Tryd.prog 47 #[.string s] w fun e w' => ∃ v, e = .returned v ∧ MacAt w' w.heap.size w'.heap.size v (rdN (spB 44 s)) (rdD (spB 44 s)) ∧ Below w.heap.size w w' := by
  have HW := Lib.hid hw
  have hit := fun bs b bv h1 h2 => iter_split bs b bv h1 h2 44 s hs
  have HSL := Lib.hid (spB_len 44 s)
  have HSM := Lib.hid (spB_mem 44 s)
  have HS := Lib.hid hs
  obtain ⟨i0, hi, hi0, hi1, hi2⟩ := info_parts infoI
  have HSP := Lib.hid (fun W => splitSeq_any s ⟨#[44]⟩ W)
  clear hw
  refine (callsIn_wide (n := 10)).1 ?_
  refine callsIn_of_wp_marks Tryd.func47 rfl trivial ?_ rfl
  simp only [Tryd.ntmps47, List.size_toArray, List.length_cons, List.length_nil, Nat.reduceAdd, Nat.reduceSub, Array.replicate_succ, Array.replicate_zero, List.push_toArray, List.append_toArray, List.nil_append, List.cons_append]
  gi_wp2_with (refine ⟨trivial, ?_⟩; gi_at_call 83; refine (callsIn_wide.2 (HSP.out _)).mono ?_; rintro e w1 ⟨rfl, rfl⟩)
  have hbel : Below w.heap.size w (((((w.alloc (.cells #[.slice none 0 0, .slice none 0 0] 34)).alloc (.cells #[.slice none 0 0, .slice none 0 0] 34)).alloc (.cells #[.string s] 9)).alloc (.cells #[.string ⟨#[44]⟩] 9)).alloc (.cells #[.int .i64 0] 3)) := by
    refine (((((Below.refl _ w).alloc ?_ _).alloc ?_ _).alloc ?_ _).alloc ?_ _).alloc ?_ _ <;> simp <;> omega
  have hbR : BxF (((((w.alloc (.cells #[.slice none 0 0, .slice none 0 0] 34)).alloc (.cells #[.slice none 0 0, .slice none 0 0] 34)).alloc (.cells #[.string s] 9)).alloc (.cells #[.string ⟨#[44]⟩] 9)).alloc (.cells #[.int .i64 0] 3)) w.heap.size (.slice none 0 0) (.slice none 0 0) := by
    refine ⟨⟨?_, ?_, ?_⟩, ?_, ?_⟩ <;> first | (go_simp; done) | (simp; omega)
  have hbM : BxF (((((w.alloc (.cells #[.slice none 0 0, .slice none 0 0] 34)).alloc (.cells #[.slice none 0 0, .slice none 0 0] 34)).alloc (.cells #[.string s] 9)).alloc (.cells #[.string ⟨#[44]⟩] 9)).alloc (.cells #[.int .i64 0] 3)) (w.heap.size + 1) (.slice none 0 0) (.slice none 0 0) := by
    refine ⟨⟨?_, ?_, ?_⟩, ?_, ?_⟩ <;> first | (go_simp; done) | (simp; omega)
  have hcap : CapS (w.heap.size + 1 + 1 + 1) (w.heap.size + 1 + 1) (w.heap.size + 1 + 1 + 1 + 1) 44 s [] (((((w.alloc (.cells #[.slice none 0 0, .slice none 0 0] 34)).alloc (.cells #[.slice none 0 0, .slice none 0 0] 34)).alloc (.cells #[.string s] 9)).alloc (.cells #[.string ⟨#[44]⟩] 9)).alloc (.cells #[.int .i64 0] 3)) := by
    refine ⟨?_, ?_, ?_, fun _ => ?_, ?_, ?_, ?_⟩ <;> first | (go_simp; done) | (simp; omega)
  generalize hw1 : (((((w.alloc (.cells #[.slice none 0 0, .slice none 0 0] 34)).alloc (.cells #[.slice none 0 0, .slice none 0 0] 34)).alloc (.cells #[.string s] 9)).alloc (.cells #[.string ⟨#[44]⟩] 9)).alloc (.cells #[.int .i64 0] 3)) = w1 at *
  have hs1 : w1.heap.size = w.heap.size + 5 := by rw [← hw1]; simp
  clear hw1
  have hs2 : w.heap.size + 5 ≤ w1.heap.size := by omega
  have hs3 : w1.heap.size ≤ w.heap.size + 5 := by omega
  clear hs1
  refine wpIn_seqB (gf := 132) (lb := #[.pointer (some ⟨w.heap.size + 1 + 1 + 1, 0, none⟩), .pointer (some ⟨w.heap.size + 1 + 1, 0, none⟩), .pointer (some ⟨w.heap.size + 1 + 1 + 1 + 1, 0, none⟩)]) rfl (enters_of Tryd.func132 (by kernel_rfl) rfl) (b := w.heap.size + 1 + 1) (by omega)
    (hit _ _ _ (by omega) (by omega)) (fun s A C h hb => h.below (by omega) (by omega) (by omega) hb) hcap rfl
    (fun pre W => Below w.heap.size w W ∧ BxF W w.heap.size (.slice none 0 0) (.slice none 0 0) ∧ ∃ u1 u2, BxF W (w.heap.size + 1) u1 u2 ∧ LwAt W (w.heap.size + 7) u1 u2 (rdN pre) (rdD pre))
    (fun _ _ _ => False)
    ?hI (fun _ _ _ _ h => h.elim) ?hIb (fun _ _ _ _ h => h.elim) ⟨hbel, hbR, _, _, hbM, World.ownsRow_nil _ _ _ _, World.ownsRow_nil _ _ _ _, fun g e => by simp [Value.ownBlock] at e⟩
    (fun x => { tmps := #[.string s, undef, .pointer (some ⟨w.heap.size, 0, none⟩), .pointer (some ⟨w.heap.size + 1, 0, none⟩), .string x, undef, undef, undef, .string s, .bool false, undef, .string s, .func (.func 132) #[] #[.pointer (some ⟨w.heap.size + 1 + 1 + 1, 0, none⟩), .pointer (some ⟨w.heap.size + 1 + 1, 0, none⟩), .pointer (some ⟨w.heap.size + 1 + 1 + 1 + 1, 0, none⟩)], .string x, undef, undef, undef, undef, undef, undef, undef, undef, undef, undef, undef, undef, undef, undef, undef, undef, undef, undef, undef, undef, undef], defers := [] }) ?assign ?body ?done (fun _ _ _ _ h => h.elim)
  case hI =>
    rintro p A C ⟨h1, h2, u1, u2, h3, h4⟩ ht
    have hsz : w.heap.size ≤ A.heap.size := h1.size
    exact ⟨h1.trans (ht.below (by omega) (by omega)), h2.touch ht (by omega), u1, u2, h3.touch ht (by omega), h4.touch ht (by omega)⟩
  case hIb =>
    rintro p A C ⟨h1, h2, u1, u2, h3, h4⟩ ht
    have hsz : w.heap.size ≤ A.heap.size := h1.size
    exact ⟨h1.trans (ht.below (by omega) (by omega)), h2.touch ht (by omega), u1, u2, h3.touch ht (by omega), h4.touch ht (by omega)⟩
  case assign =>
    intro l x W K hK
    gi_wp2
    exact hK
  case body =>
    rintro l pre x W ⟨h1, h2, u1, u2, h3, h4⟩ hWs hpre hcapW
    have hlen : pre.length + 1 ≤ s.size + 1 := by
      have h := hpre.length_le
      have := HSL.out
      simp at h
      omega
    have hxl : x.size ≤ s.size := HSM.out x (hpre.subset (by simp))
    have H1 := Lib.hid h1
    have H2 := Lib.hid h2
    have HPRE := Lib.hid hpre
    have HCAP := Lib.hid hcapW
    have hs0 := HS.out
    have hc1 := cu1_len 47 x.data.toList
    have hc2 := cu2_len 47 x.data.toList
    rw [← bsize] at hc1 hc2
    have HCUT := Lib.hid (fun W => cutP_any 47 x (by omega) W)
    have HR0 := Lib.hid (fun W hW => readP_any (cu1 47 x.data.toList) (by omega) W hW)
    have HR1 := Lib.hid (fun W hW => readP_any (cu2 47 x.data.toList) (by omega) W hW)
    have HNS := Lib.hid (rdN_snoc pre x)
    have HDS := Lib.hid (rdD_snoc pre x)
    have hnl := rdN_len pre
    have hdl := rdD_len pre
    generalize rdN pre = xs at *
    generalize rdD pre = ys at *
    generalize numL (cu1 47 x.data.toList) = v0 at *
    generalize numL (cu2 47 x.data.toList) = v1 at *
    generalize byt (cu1 47 x.data.toList) = c1 at *
    generalize byt (cu2 47 x.data.toList) = c2 at *
    generalize (Lib.cut x.data.toList [47]).2.2 = t3 at *
    have HML0 : Hid (xs.length + 1 ≤ maxLen) := Lib.hid (by unfold maxLen; omega)
    have HML1 : Hid (ys.length + 1 ≤ maxLen) := Lib.hid (by unfold maxLen; omega)
    have HML20 : Hid (xs.length ≤ 1048577) := Lib.hid (by omega)
    have HML21 : Hid (ys.length ≤ 1048577) := Lib.hid (by omega)
    have HB3 := Lib.hid h3
    have HL4 := Lib.hid h4
    clear h1 h2 h3 h4 hpre hcapW hbel hbR hbM hcap hit hs hxl hc1 hc2 hnl hdl hlen
    gi_wp2_with (refine ⟨trivial, ?_⟩; gi_at_call 84; refine (CallsIn.inRound l (callsIn_wide.2 (HCUT.out _))).mono ?_; rintro e w3 ⟨rfl, hb3⟩)
    have HBX := Lib.hid (HB3.out.kept hb3)
    have HLW := Lib.hid (HL4.out.kept hb3)
    have hlt7 : w.heap.size + 1 < w.heap.size + 7 := by omega
    have hWsz : w.heap.size + 7 ≤ w3.heap.size := by have := hb3.size; omega
    have HST := Lib.hid (fun W (hb : Below w3.heap.size w3 W) => HW.out.below ((H1.out.trans (hb3.mono H1.out.size)).trans (hb.mono (Nat.le_trans H1.out.size hb3.size))))
    have HST0 : Hid (∀ W', Below w.heap.size w3 W' → Set3 W') := Lib.hid (fun W' hb => HW.out.below ((H1.out.trans (hb3.mono H1.out.size)).trans hb))
    have HK3 : Hid (KpA (w.heap.size + 7) (w.heap.size + 1) W w3) := Lib.hid (KpA.of_below hb3 (by omega))
    obtain ⟨⟨k0, k1, k2⟩, k3, k4⟩ := HBX.out
    clear hb3
    refine wpIn_mono (Q := fun e a' w' => e = .normal ∧ (∃ z0 z1 z2 z3 z4 z5 z6, a' = { tmps := #[.string s, undef, .pointer (some ⟨w.heap.size, 0, none⟩), .pointer (some ⟨w.heap.size + 1, 0, none⟩), .string x, .string c1, .string c2, .bool t3, .string s, .bool false, undef, .string s, .func (.func 132) #[] #[.pointer (some ⟨w.heap.size + 1 + 1 + 1, 0, none⟩), .pointer (some ⟨w.heap.size + 1 + 1, 0, none⟩), .pointer (some ⟨w.heap.size + 1 + 1 + 1 + 1, 0, none⟩)], .string x, .tuple #[.string c1, .string c2, .bool t3], .string x, .tuple #[.string c1, .string c2, .bool t3], .string c1, .string c2, .bool t3, z0, z1, z2, z3, z4, z5, z6, undef, undef, undef, undef, undef, undef, undef, undef], defers := [] }) ∧ ∃ p5 d5, (BxF w' (w.heap.size + 1) (.slice p5 (xs.length + 1) d5) u2 ∧ LwAt w' (w.heap.size + 7) (.slice p5 (xs.length + 1) d5) u2 (xs ++ [v0]) ys) ∧ KpA (w.heap.size + 7) (w.heap.size + 1) w3 w') ?reg7 ?_
    case reg7 =>
      refine region_round (S := fun _ => True) (by kernel_rfl) (by kernel_rfl) (fun h => by obtain ⟨_, _, h, _⟩ := h; cases h) trivial (fun hHeld => ?_)
      refine wpAnyH_take (i := 0) (oi := { dst := some 20, op := Op.fieldAddr 34 (Operand.tmp 3) 0, type := 0, pos := "l7_machine.go:355", after := #[], guard := none }) (v := ?_) rfl (by kernel_rfl) (by kernel_rfl) (by kernel_rfl) (fun _ _ _ h => nomatch h.1) (Or.inl ⟨by rfl, ?_⟩) (by assumption) ?_
      rotate_left
      · (intro wS hSw; go_simp; (try with_reducible rfl))
      (try simp only [Act.put, List.setIfInBounds_toArray, List.set_cons_zero, List.set_cons_succ])
      refine wpAnyH_take (i := 2) (oi := { dst := some 22, op := Op.move (Operand.tmp 5), type := 9, pos := "l7_machine.go:355", after := #[], guard := none }) (v := ?_) rfl (by kernel_rfl) (by kernel_rfl) (by kernel_rfl) (fun _ _ _ h => nomatch h.1) (Or.inl ⟨by rfl, ?_⟩) (by assumption) ?_
      rotate_left
      · (intro wS hSw; go_simp; (try with_reducible rfl))
      (try simp only [Act.put, List.setIfInBounds_toArray, List.set_cons_zero, List.set_cons_succ])
      refine wpAnyH_ready (rs := [1, 3]) (by kernel_rfl) (by simp) ?_
      refine AllReadyH.cons (o := { dst := some 21, op := Op.load 32 (Operand.tmp 20), type := 32, pos := "l7_machine.go:355", after := #[{ on := 0, ground := Ground.data }], guard := none }) rfl (fun K hK => ?_) (AllReadyH.cons (o := { dst := some 23, op := Op.call { callee := Callee.value (Operand.func 85), args := #[Operand.tmp 22], argTypes := #[9] }, type := 3, pos := "l7_machine.go:355", after := #[{ on := 2, ground := Ground.data }], guard := none }) rfl (fun K hK => ?_) AllReadyH.nil)
      · go_simp
        refine hK.out _ _ trivial (fun hHeld2 => ?_)
        clear hK K
        (try simp only [Act.put, List.setIfInBounds_toArray, List.set_cons_zero, List.set_cons_succ])
        refine wpAnyH_ready (rs := [3]) (by kernel_rfl) (by simp) ?_
        refine AllReadyH.cons (o := { dst := some 23, op := Op.call { callee := Callee.value (Operand.func 85), args := #[Operand.tmp 22], argTypes := #[9] }, type := 3, pos := "l7_machine.go:355", after := #[{ on := 2, ground := Ground.data }], guard := none }) rfl (fun K hK => ?_) AllReadyH.nil
        go_simp
        (go_at_call 85; refine (HR0.out _ (HST.out _ (Below.refl _ _).drew)).mono ?_; rintro e w7 ⟨rfl, hb7⟩)
        have HB7 := Lib.hid ((Below.refl _ _).drew.trans hb7)
        have hz7 := HB7.out.size
        have x7 := HBX.out.kept HB7.out
        have y7 := x7.kept (below_alloc w7 (.cells #[.int .i64 v0] 3))
        clear hb7
        obtain ⟨⟨k0, k1, k2⟩, k3, k4⟩ := x7
        obtain ⟨⟨m0, m1, m2⟩, m3, m4⟩ := y7
        refine hK.out _ _ trivial (fun hHeld2 => ?_)
        clear hK K
        (try simp only [Act.put, List.setIfInBounds_toArray, List.set_cons_zero, List.set_cons_succ])
        refine wpAnyH_ready (rs := [4]) (by kernel_rfl) (by simp) ?_
        refine AllReadyH.cons (o := { dst := some 24, op := Op.buildSlice 32 1 #[(0, Operand.tmp 23)], type := 32, pos := "l7_machine.go:355", after := #[{ on := 3, ground := Ground.data }], guard := none }) rfl (fun K hK => ?_) AllReadyH.nil
        go_simp
        refine hK.out _ _ trivial (fun hHeld2 => ?_)
        clear hK K
        (try simp only [Act.put, List.setIfInBounds_toArray, List.set_cons_zero, List.set_cons_succ])
        refine wpAnyH_ready (rs := [5]) (by kernel_rfl) (by simp) ?_
        refine AllReadyH.cons (o := { dst := some 25, op := Op.call { callee := Callee.builtin Builtin.append, args := #[Operand.tmp 21, Operand.tmp 24], argTypes := #[32, 32] }, type := 32, pos := "l7_machine.go:355", after := #[{ on := 1, ground := Ground.data }, { on := 4, ground := Ground.data }, { on := 3, ground := Ground.chain }], guard := none }) rfl (fun K hK => ?_) AllReadyH.nil
        refine step_append_rd rfl (.tmp 21) (.tmp 24) 32 rfl (w.heap.size + 7) 3 i0 (.int .i64 0) 1 8 Tryd.underlying32 hi hi0 hi1 hi2 rfl (by decide) u1 _ _ (by simp [Act.eval]) (ownsRow_kept HLW.out.h1 (HB7.out.trans ((below_alloc w7 (.cells #[.int .i64 v0] 3)).mono HB7.out.size))) ⟨w7.heap.size, 0, none⟩ 1 1 [.int .i64 v0] (by simp [Act.eval]) rfl (fun j u hu => new_cell _ _ _ hu) (by simp [Value.oneCell']) HML0.out (by have := HML20.out; omega) (by simp; omega) ?_
        intro v5 w5 hown5 hgrow5 hat5
        obtain ⟨p5, d5, rfl⟩ := own_formL hown5
        obtain ⟨LW5, BX5, KP5⟩ := leaf0 HLW.out HBX.out hlt7 hWsz HB7.out hown5 hgrow5 hat5
        clear k0 k1 k2 k3 k4 m0 m1 m2 m3 m4
        obtain ⟨⟨k0, k1, k2⟩, k3, k4⟩ := BX5
        refine hK.out _ _ trivial (fun hHeld2 => ?_)
        clear hK K
        (try simp only [Act.put, List.setIfInBounds_toArray, List.set_cons_zero, List.set_cons_succ])
        refine wpAnyH_take (i := 6) (oi := { dst := some 26, op := Op.fieldAddr 34 (Operand.tmp 3) 0, type := 0, pos := "l7_machine.go:355", after := #[{ on := 0, ground := Ground.phase }, { on := 1, ground := Ground.phase }, { on := 2, ground := Ground.phase }, { on := 3, ground := Ground.phase }, { on := 4, ground := Ground.phase }, { on := 5, ground := Ground.phase }], guard := none }) (v := ?_) rfl (by kernel_rfl) (by kernel_rfl) (by kernel_rfl) (fun _ _ _ h => nomatch h.1) (Or.inl ⟨by rfl, ?_⟩) (by assumption) ?_
        rotate_left
        · (intro wS hSw; go_simp; (try with_reducible rfl))
        (try simp only [Act.put, List.setIfInBounds_toArray, List.set_cons_zero, List.set_cons_succ])
        refine wpAnyH_ready (rs := [7]) (by kernel_rfl) (by simp) ?_
        refine AllReadyH.cons (o := { dst := none, op := Op.store 32 (Operand.tmp 26) (Operand.tmp 25), type := 0, pos := "l7_machine.go:355", after := #[{ on := 6, ground := Ground.data }, { on := 5, ground := Ground.data }, { on := 5, ground := Ground.chain }, { on := 0, ground := Ground.phase }, { on := 1, ground := Ground.phase }, { on := 2, ground := Ground.phase }, { on := 3, ground := Ground.phase }, { on := 4, ground := Ground.phase }, { on := 5, ground := Ground.phase }], guard := none }) rfl (fun K hK => ?_) AllReadyH.nil
        go_simp
        refine hK.out _ _ trivial (fun hHeld2 => ?_)
        clear hK K
        (try simp only [Act.put, List.setIfInBounds_toArray, List.set_cons_zero, List.set_cons_succ])
        refine wpAnyH_done (by kernel_rfl) ?_ _
        exact ⟨rfl, ⟨_, _, _, _, _, _, _, rfl⟩, _, _, fin0 ⟨⟨k0, k1, k2⟩, k3, k4⟩ LW5 hlt7, KP5.set _ _⟩
      · go_simp
        (go_at_call 85; refine (HR0.out _ (HST.out _ (Below.refl _ _).drew)).mono ?_; rintro e w7 ⟨rfl, hb7⟩)
        have HB7 := Lib.hid ((Below.refl _ _).drew.trans hb7)
        have hz7 := HB7.out.size
        have x7 := HBX.out.kept HB7.out
        have y7 := x7.kept (below_alloc w7 (.cells #[.int .i64 v0] 3))
        clear hb7
        obtain ⟨⟨k0, k1, k2⟩, k3, k4⟩ := x7
        obtain ⟨⟨m0, m1, m2⟩, m3, m4⟩ := y7
        refine hK.out _ _ trivial (fun hHeld2 => ?_)
        clear hK K
        (try simp only [Act.put, List.setIfInBounds_toArray, List.set_cons_zero, List.set_cons_succ])
        refine wpAnyH_ready (rs := [1, 4]) (by kernel_rfl) (by simp) ?_
        refine AllReadyH.cons (o := { dst := some 21, op := Op.load 32 (Operand.tmp 20), type := 32, pos := "l7_machine.go:355", after := #[{ on := 0, ground := Ground.data }], guard := none }) rfl (fun K hK => ?_) (AllReadyH.cons (o := { dst := some 24, op := Op.buildSlice 32 1 #[(0, Operand.tmp 23)], type := 32, pos := "l7_machine.go:355", after := #[{ on := 3, ground := Ground.data }], guard := none }) rfl (fun K hK => ?_) AllReadyH.nil)
        · go_simp
          refine hK.out _ _ trivial (fun hHeld2 => ?_)
          clear hK K
          (try simp only [Act.put, List.setIfInBounds_toArray, List.set_cons_zero, List.set_cons_succ])
          refine wpAnyH_ready (rs := [4]) (by kernel_rfl) (by simp) ?_
          refine AllReadyH.cons (o := { dst := some 24, op := Op.buildSlice 32 1 #[(0, Operand.tmp 23)], type := 32, pos := "l7_machine.go:355", after := #[{ on := 3, ground := Ground.data }], guard := none }) rfl (fun K hK => ?_) AllReadyH.nil
          go_simp
          refine hK.out _ _ trivial (fun hHeld2 => ?_)
          clear hK K
          (try simp only [Act.put, List.setIfInBounds_toArray, List.set_cons_zero, List.set_cons_succ])
          refine wpAnyH_ready (rs := [5]) (by kernel_rfl) (by simp) ?_
          refine AllReadyH.cons (o := { dst := some 25, op := Op.call { callee := Callee.builtin Builtin.append, args := #[Operand.tmp 21, Operand.tmp 24], argTypes := #[32, 32] }, type := 32, pos := "l7_machine.go:355", after := #[{ on := 1, ground := Ground.data }, { on := 4, ground := Ground.data }, { on := 3, ground := Ground.chain }], guard := none }) rfl (fun K hK => ?_) AllReadyH.nil
          refine step_append_rd rfl (.tmp 21) (.tmp 24) 32 rfl (w.heap.size + 7) 3 i0 (.int .i64 0) 1 8 Tryd.underlying32 hi hi0 hi1 hi2 rfl (by decide) u1 _ _ (by simp [Act.eval]) (ownsRow_kept HLW.out.h1 (HB7.out.trans ((below_alloc w7 (.cells #[.int .i64 v0] 3)).mono HB7.out.size))) ⟨w7.heap.size, 0, none⟩ 1 1 [.int .i64 v0] (by simp [Act.eval]) rfl (fun j u hu => new_cell _ _ _ hu) (by simp [Value.oneCell']) HML0.out (by have := HML20.out; omega) (by simp; omega) ?_
          intro v5 w5 hown5 hgrow5 hat5
          obtain ⟨p5, d5, rfl⟩ := own_formL hown5
          obtain ⟨LW5, BX5, KP5⟩ := leaf0 HLW.out HBX.out hlt7 hWsz HB7.out hown5 hgrow5 hat5
          clear k0 k1 k2 k3 k4 m0 m1 m2 m3 m4
          obtain ⟨⟨k0, k1, k2⟩, k3, k4⟩ := BX5
          refine hK.out _ _ trivial (fun hHeld2 => ?_)
          clear hK K
          (try simp only [Act.put, List.setIfInBounds_toArray, List.set_cons_zero, List.set_cons_succ])
          refine wpAnyH_take (i := 6) (oi := { dst := some 26, op := Op.fieldAddr 34 (Operand.tmp 3) 0, type := 0, pos := "l7_machine.go:355", after := #[{ on := 0, ground := Ground.phase }, { on := 1, ground := Ground.phase }, { on := 2, ground := Ground.phase }, { on := 3, ground := Ground.phase }, { on := 4, ground := Ground.phase }, { on := 5, ground := Ground.phase }], guard := none }) (v := ?_) rfl (by kernel_rfl) (by kernel_rfl) (by kernel_rfl) (fun _ _ _ h => nomatch h.1) (Or.inl ⟨by rfl, ?_⟩) (by assumption) ?_
          rotate_left
          · (intro wS hSw; go_simp; (try with_reducible rfl))
          (try simp only [Act.put, List.setIfInBounds_toArray, List.set_cons_zero, List.set_cons_succ])
          refine wpAnyH_ready (rs := [7]) (by kernel_rfl) (by simp) ?_
          refine AllReadyH.cons (o := { dst := none, op := Op.store 32 (Operand.tmp 26) (Operand.tmp 25), type := 0, pos := "l7_machine.go:355", after := #[{ on := 6, ground := Ground.data }, { on := 5, ground := Ground.data }, { on := 5, ground := Ground.chain }, { on := 0, ground := Ground.phase }, { on := 1, ground := Ground.phase }, { on := 2, ground := Ground.phase }, { on := 3, ground := Ground.phase }, { on := 4, ground := Ground.phase }, { on := 5, ground := Ground.phase }], guard := none }) rfl (fun K hK => ?_) AllReadyH.nil
          go_simp
          refine hK.out _ _ trivial (fun hHeld2 => ?_)
          clear hK K
          (try simp only [Act.put, List.setIfInBounds_toArray, List.set_cons_zero, List.set_cons_succ])
          refine wpAnyH_done (by kernel_rfl) ?_ _
          exact ⟨rfl, ⟨_, _, _, _, _, _, _, rfl⟩, _, _, fin0 ⟨⟨k0, k1, k2⟩, k3, k4⟩ LW5 hlt7, KP5.set _ _⟩
        · go_simp
          refine hK.out _ _ trivial (fun hHeld2 => ?_)
          clear hK K
          (try simp only [Act.put, List.setIfInBounds_toArray, List.set_cons_zero, List.set_cons_succ])
          refine wpAnyH_ready (rs := [1]) (by kernel_rfl) (by simp) ?_
          refine AllReadyH.cons (o := { dst := some 21, op := Op.load 32 (Operand.tmp 20), type := 32, pos := "l7_machine.go:355", after := #[{ on := 0, ground := Ground.data }], guard := none }) rfl (fun K hK => ?_) AllReadyH.nil
          go_simp
          refine hK.out _ _ trivial (fun hHeld2 => ?_)
          clear hK K
          (try simp only [Act.put, List.setIfInBounds_toArray, List.set_cons_zero, List.set_cons_succ])
          refine wpAnyH_ready (rs := [5]) (by kernel_rfl) (by simp) ?_
          refine AllReadyH.cons (o := { dst := some 25, op := Op.call { callee := Callee.builtin Builtin.append, args := #[Operand.tmp 21, Operand.tmp 24], argTypes := #[32, 32] }, type := 32, pos := "l7_machine.go:355", after := #[{ on := 1, ground := Ground.data }, { on := 4, ground := Ground.data }, { on := 3, ground := Ground.chain }], guard := none }) rfl (fun K hK => ?_) AllReadyH.nil
          refine step_append_rd rfl (.tmp 21) (.tmp 24) 32 rfl (w.heap.size + 7) 3 i0 (.int .i64 0) 1 8 Tryd.underlying32 hi hi0 hi1 hi2 rfl (by decide) u1 _ _ (by simp [Act.eval]) (ownsRow_kept HLW.out.h1 (HB7.out.trans ((below_alloc w7 (.cells #[.int .i64 v0] 3)).mono HB7.out.size))) ⟨w7.heap.size, 0, none⟩ 1 1 [.int .i64 v0] (by simp [Act.eval]) rfl (fun j u hu => new_cell _ _ _ hu) (by simp [Value.oneCell']) HML0.out (by have := HML20.out; omega) (by simp; omega) ?_
          intro v5 w5 hown5 hgrow5 hat5
          obtain ⟨p5, d5, rfl⟩ := own_formL hown5
          obtain ⟨LW5, BX5, KP5⟩ := leaf0 HLW.out HBX.out hlt7 hWsz HB7.out hown5 hgrow5 hat5
          clear k0 k1 k2 k3 k4 m0 m1 m2 m3 m4
          obtain ⟨⟨k0, k1, k2⟩, k3, k4⟩ := BX5
          refine hK.out _ _ trivial (fun hHeld2 => ?_)
          clear hK K
          (try simp only [Act.put, List.setIfInBounds_toArray, List.set_cons_zero, List.set_cons_succ])
          refine wpAnyH_take (i := 6) (oi := { dst := some 26, op := Op.fieldAddr 34 (Operand.tmp 3) 0, type := 0, pos := "l7_machine.go:355", after := #[{ on := 0, ground := Ground.phase }, { on := 1, ground := Ground.phase }, { on := 2, ground := Ground.phase }, { on := 3, ground := Ground.phase }, { on := 4, ground := Ground.phase }, { on := 5, ground := Ground.phase }], guard := none }) (v := ?_) rfl (by kernel_rfl) (by kernel_rfl) (by kernel_rfl) (fun _ _ _ h => nomatch h.1) (Or.inl ⟨by rfl, ?_⟩) (by assumption) ?_
          rotate_left
          · (intro wS hSw; go_simp; (try with_reducible rfl))
          (try simp only [Act.put, List.setIfInBounds_toArray, List.set_cons_zero, List.set_cons_succ])
          refine wpAnyH_ready (rs := [7]) (by kernel_rfl) (by simp) ?_
          refine AllReadyH.cons (o := { dst := none, op := Op.store 32 (Operand.tmp 26) (Operand.tmp 25), type := 0, pos := "l7_machine.go:355", after := #[{ on := 6, ground := Ground.data }, { on := 5, ground := Ground.data }, { on := 5, ground := Ground.chain }, { on := 0, ground := Ground.phase }, { on := 1, ground := Ground.phase }, { on := 2, ground := Ground.phase }, { on := 3, ground := Ground.phase }, { on := 4, ground := Ground.phase }, { on := 5, ground := Ground.phase }], guard := none }) rfl (fun K hK => ?_) AllReadyH.nil
          go_simp
          refine hK.out _ _ trivial (fun hHeld2 => ?_)
          clear hK K
          (try simp only [Act.put, List.setIfInBounds_toArray, List.set_cons_zero, List.set_cons_succ])
          refine wpAnyH_done (by kernel_rfl) ?_ _
          exact ⟨rfl, ⟨_, _, _, _, _, _, _, rfl⟩, _, _, fin0 ⟨⟨k0, k1, k2⟩, k3, k4⟩ LW5 hlt7, KP5.set _ _⟩
    rintro e a' w4 ⟨rfl, ⟨z0, z1, z2, z3, z4, z5, z6, rfl⟩, p5, d5, ⟨hbx4, hlw4⟩, hk4⟩
    have hz4 := hk4.size
    have HK4 := Lib.hid hk4
    have HX4 := Lib.hid hbx4
    have HL5 := Lib.hid hlw4
    have hlt8 : w.heap.size + 7 ≤ w4.heap.size := by omega
    have HST4 : Hid (∀ W', Below w4.heap.size w4 W' → Set3 W') := Lib.hid (fun W' hb => HST0.out W' (((HK4.out.below (n := w.heap.size) (by omega) (by omega))).trans (hb.mono (by omega))))
    clear HBX HLW HST hk4 hbx4 hlw4 hWsz HML0 HML20 HR0 HB3 HL4 k0 k1 k2 k3 k4
    obtain ⟨⟨k0, k1, k2⟩, k3, k4⟩ := HX4.out
    have HBX := HX4
    have HLW := HL5
    have HST := HST4
    have hWsz := hlt8
    gi_wp2_with fail
    refine wpIn_mono (Q := fun e a' w' => e = .normal ∧ (∃ z0 z1 z2 z3 z4 z5 z6 z7 z8 z9 z10 z11 z12 z13, a' = { tmps := #[.string s, undef, .pointer (some ⟨w.heap.size, 0, none⟩), .pointer (some ⟨w.heap.size + 1, 0, none⟩), .string x, .string c1, .string c2, .bool t3, .string s, .bool false, undef, .string s, .func (.func 132) #[] #[.pointer (some ⟨w.heap.size + 1 + 1 + 1, 0, none⟩), .pointer (some ⟨w.heap.size + 1 + 1, 0, none⟩), .pointer (some ⟨w.heap.size + 1 + 1 + 1 + 1, 0, none⟩)], .string x, .tuple #[.string c1, .string c2, .bool t3], .string x, .tuple #[.string c1, .string c2, .bool t3], .string c1, .string c2, .bool t3, z0, z1, z2, z3, z4, z5, z6, z7, z8, z9, z10, z11, z12, z13, undef], defers := [] }) ∧ ∃ p6 d6, (BxF w' (w.heap.size + 1) (.slice p5 (xs.length + 1) d5) (.slice p6 (ys.length + 1) d6) ∧ LwAt w' (w.heap.size + 7) (.slice p5 (xs.length + 1) d5) (.slice p6 (ys.length + 1) d6) (xs ++ [v0]) (ys ++ [v1])) ∧ KpA (w.heap.size + 7) (w.heap.size + 1) w4 w') ?reg8 ?_
    case reg8 =>
      refine region_round (S := fun _ => True) (by kernel_rfl) (by kernel_rfl) (fun h => by obtain ⟨_, _, h, _⟩ := h; cases h) trivial (fun hHeld => ?_)
      refine wpAnyH_take (i := 0) (oi := { dst := some 27, op := Op.fieldAddr 34 (Operand.tmp 3) 1, type := 0, pos := "l7_machine.go:356", after := #[], guard := none }) (v := ?_) rfl (by kernel_rfl) (by kernel_rfl) (by kernel_rfl) (fun _ _ _ h => nomatch h.1) (Or.inl ⟨by rfl, ?_⟩) (by assumption) ?_
      rotate_left
      · (intro wS hSw; go_simp; (try with_reducible rfl))
      (try simp only [Act.put, List.setIfInBounds_toArray, List.set_cons_zero, List.set_cons_succ])
      refine wpAnyH_take (i := 2) (oi := { dst := some 29, op := Op.move (Operand.tmp 6), type := 9, pos := "l7_machine.go:356", after := #[], guard := none }) (v := ?_) rfl (by kernel_rfl) (by kernel_rfl) (by kernel_rfl) (fun _ _ _ h => nomatch h.1) (Or.inl ⟨by rfl, ?_⟩) (by assumption) ?_
      rotate_left
      · (intro wS hSw; go_simp; (try with_reducible rfl))
      (try simp only [Act.put, List.setIfInBounds_toArray, List.set_cons_zero, List.set_cons_succ])
      refine wpAnyH_ready (rs := [1, 3]) (by kernel_rfl) (by simp) ?_
      refine AllReadyH.cons (o := { dst := some 28, op := Op.load 32 (Operand.tmp 27), type := 32, pos := "l7_machine.go:356", after := #[{ on := 0, ground := Ground.data }], guard := none }) rfl (fun K hK => ?_) (AllReadyH.cons (o := { dst := some 30, op := Op.call { callee := Callee.value (Operand.func 85), args := #[Operand.tmp 29], argTypes := #[9] }, type := 3, pos := "l7_machine.go:356", after := #[{ on := 2, ground := Ground.data }], guard := none }) rfl (fun K hK => ?_) AllReadyH.nil)
      · go_simp
        refine hK.out _ _ trivial (fun hHeld2 => ?_)
        clear hK K
        (try simp only [Act.put, List.setIfInBounds_toArray, List.set_cons_zero, List.set_cons_succ])
        refine wpAnyH_ready (rs := [3]) (by kernel_rfl) (by simp) ?_
        refine AllReadyH.cons (o := { dst := some 30, op := Op.call { callee := Callee.value (Operand.func 85), args := #[Operand.tmp 29], argTypes := #[9] }, type := 3, pos := "l7_machine.go:356", after := #[{ on := 2, ground := Ground.data }], guard := none }) rfl (fun K hK => ?_) AllReadyH.nil
        go_simp
        (go_at_call 85; refine (HR1.out _ (HST.out _ (Below.refl _ _).drew)).mono ?_; rintro e w7 ⟨rfl, hb7⟩)
        have HB7 := Lib.hid ((Below.refl _ _).drew.trans hb7)
        have hz7 := HB7.out.size
        have x7 := HBX.out.kept HB7.out
        have y7 := x7.kept (below_alloc w7 (.cells #[.int .i64 v1] 3))
        clear hb7
        obtain ⟨⟨k0, k1, k2⟩, k3, k4⟩ := x7
        obtain ⟨⟨m0, m1, m2⟩, m3, m4⟩ := y7
        refine hK.out _ _ trivial (fun hHeld2 => ?_)
        clear hK K
        (try simp only [Act.put, List.setIfInBounds_toArray, List.set_cons_zero, List.set_cons_succ])
        refine wpAnyH_ready (rs := [4]) (by kernel_rfl) (by simp) ?_
        refine AllReadyH.cons (o := { dst := some 31, op := Op.buildSlice 32 1 #[(0, Operand.tmp 30)], type := 32, pos := "l7_machine.go:356", after := #[{ on := 3, ground := Ground.data }], guard := none }) rfl (fun K hK => ?_) AllReadyH.nil
        go_simp
        refine hK.out _ _ trivial (fun hHeld2 => ?_)
        clear hK K
        (try simp only [Act.put, List.setIfInBounds_toArray, List.set_cons_zero, List.set_cons_succ])
        refine wpAnyH_ready (rs := [5]) (by kernel_rfl) (by simp) ?_
        refine AllReadyH.cons (o := { dst := some 32, op := Op.call { callee := Callee.builtin Builtin.append, args := #[Operand.tmp 28, Operand.tmp 31], argTypes := #[32, 32] }, type := 32, pos := "l7_machine.go:356", after := #[{ on := 1, ground := Ground.data }, { on := 4, ground := Ground.data }, { on := 3, ground := Ground.chain }], guard := none }) rfl (fun K hK => ?_) AllReadyH.nil
        refine step_append_rd rfl (.tmp 28) (.tmp 31) 32 rfl (w.heap.size + 7) 3 i0 (.int .i64 0) 1 8 Tryd.underlying32 hi hi0 hi1 hi2 rfl (by decide) u2 _ _ (by simp [Act.eval]) (ownsRow_kept HLW.out.h2 (HB7.out.trans ((below_alloc w7 (.cells #[.int .i64 v1] 3)).mono HB7.out.size))) ⟨w7.heap.size, 0, none⟩ 1 1 [.int .i64 v1] (by simp [Act.eval]) rfl (fun j u hu => new_cell _ _ _ hu) (by simp [Value.oneCell']) HML1.out (by have := HML21.out; omega) (by simp; omega) ?_
        intro v5 w5 hown5 hgrow5 hat5
        obtain ⟨p5, d5, rfl⟩ := own_formL hown5
        obtain ⟨LW5, BX5, KP5⟩ := leaf1 HLW.out HBX.out hlt7 hWsz HB7.out hown5 hgrow5 hat5
        clear k0 k1 k2 k3 k4 m0 m1 m2 m3 m4
        obtain ⟨⟨k0, k1, k2⟩, k3, k4⟩ := BX5
        refine hK.out _ _ trivial (fun hHeld2 => ?_)
        clear hK K
        (try simp only [Act.put, List.setIfInBounds_toArray, List.set_cons_zero, List.set_cons_succ])
        refine wpAnyH_take (i := 6) (oi := { dst := some 33, op := Op.fieldAddr 34 (Operand.tmp 3) 1, type := 0, pos := "l7_machine.go:356", after := #[{ on := 0, ground := Ground.phase }, { on := 1, ground := Ground.phase }, { on := 2, ground := Ground.phase }, { on := 3, ground := Ground.phase }, { on := 4, ground := Ground.phase }, { on := 5, ground := Ground.phase }], guard := none }) (v := ?_) rfl (by kernel_rfl) (by kernel_rfl) (by kernel_rfl) (fun _ _ _ h => nomatch h.1) (Or.inl ⟨by rfl, ?_⟩) (by assumption) ?_
        rotate_left
        · (intro wS hSw; go_simp; (try with_reducible rfl))
        (try simp only [Act.put, List.setIfInBounds_toArray, List.set_cons_zero, List.set_cons_succ])
        refine wpAnyH_ready (rs := [7]) (by kernel_rfl) (by simp) ?_
        refine AllReadyH.cons (o := { dst := none, op := Op.store 32 (Operand.tmp 33) (Operand.tmp 32), type := 0, pos := "l7_machine.go:356", after := #[{ on := 6, ground := Ground.data }, { on := 5, ground := Ground.data }, { on := 5, ground := Ground.chain }, { on := 0, ground := Ground.phase }, { on := 1, ground := Ground.phase }, { on := 2, ground := Ground.phase }, { on := 3, ground := Ground.phase }, { on := 4, ground := Ground.phase }, { on := 5, ground := Ground.phase }], guard := none }) rfl (fun K hK => ?_) AllReadyH.nil
        go_simp
        refine hK.out _ _ trivial (fun hHeld2 => ?_)
        clear hK K
        (try simp only [Act.put, List.setIfInBounds_toArray, List.set_cons_zero, List.set_cons_succ])
        refine wpAnyH_done (by kernel_rfl) ?_ _
        exact ⟨rfl, ⟨_, _, _, _, _, _, _, _, _, _, _, _, _, _, rfl⟩, _, _, fin1 ⟨⟨k0, k1, k2⟩, k3, k4⟩ LW5 hlt7, KP5.set _ _⟩
      · go_simp
        (go_at_call 85; refine (HR1.out _ (HST.out _ (Below.refl _ _).drew)).mono ?_; rintro e w7 ⟨rfl, hb7⟩)
        have HB7 := Lib.hid ((Below.refl _ _).drew.trans hb7)
        have hz7 := HB7.out.size
        have x7 := HBX.out.kept HB7.out
        have y7 := x7.kept (below_alloc w7 (.cells #[.int .i64 v1] 3))
        clear hb7
        obtain ⟨⟨k0, k1, k2⟩, k3, k4⟩ := x7
        obtain ⟨⟨m0, m1, m2⟩, m3, m4⟩ := y7
        refine hK.out _ _ trivial (fun hHeld2 => ?_)
        clear hK K
        (try simp only [Act.put, List.setIfInBounds_toArray, List.set_cons_zero, List.set_cons_succ])
        refine wpAnyH_ready (rs := [1, 4]) (by kernel_rfl) (by simp) ?_
        refine AllReadyH.cons (o := { dst := some 28, op := Op.load 32 (Operand.tmp 27), type := 32, pos := "l7_machine.go:356", after := #[{ on := 0, ground := Ground.data }], guard := none }) rfl (fun K hK => ?_) (AllReadyH.cons (o := { dst := some 31, op := Op.buildSlice 32 1 #[(0, Operand.tmp 30)], type := 32, pos := "l7_machine.go:356", after := #[{ on := 3, ground := Ground.data }], guard := none }) rfl (fun K hK => ?_) AllReadyH.nil)
        · go_simp
          refine hK.out _ _ trivial (fun hHeld2 => ?_)
          clear hK K
          (try simp only [Act.put, List.setIfInBounds_toArray, List.set_cons_zero, List.set_cons_succ])
          refine wpAnyH_ready (rs := [4]) (by kernel_rfl) (by simp) ?_
          refine AllReadyH.cons (o := { dst := some 31, op := Op.buildSlice 32 1 #[(0, Operand.tmp 30)], type := 32, pos := "l7_machine.go:356", after := #[{ on := 3, ground := Ground.data }], guard := none }) rfl (fun K hK => ?_) AllReadyH.nil
          go_simp
          refine hK.out _ _ trivial (fun hHeld2 => ?_)
          clear hK K
          (try simp only [Act.put, List.setIfInBounds_toArray, List.set_cons_zero, List.set_cons_succ])
          refine wpAnyH_ready (rs := [5]) (by kernel_rfl) (by simp) ?_
          refine AllReadyH.cons (o := { dst := some 32, op := Op.call { callee := Callee.builtin Builtin.append, args := #[Operand.tmp 28, Operand.tmp 31], argTypes := #[32, 32] }, type := 32, pos := "l7_machine.go:356", after := #[{ on := 1, ground := Ground.data }, { on := 4, ground := Ground.data }, { on := 3, ground := Ground.chain }], guard := none }) rfl (fun K hK => ?_) AllReadyH.nil
          refine step_append_rd rfl (.tmp 28) (.tmp 31) 32 rfl (w.heap.size + 7) 3 i0 (.int .i64 0) 1 8 Tryd.underlying32 hi hi0 hi1 hi2 rfl (by decide) u2 _ _ (by simp [Act.eval]) (ownsRow_kept HLW.out.h2 (HB7.out.trans ((below_alloc w7 (.cells #[.int .i64 v1] 3)).mono HB7.out.size))) ⟨w7.heap.size, 0, none⟩ 1 1 [.int .i64 v1] (by simp [Act.eval]) rfl (fun j u hu => new_cell _ _ _ hu) (by simp [Value.oneCell']) HML1.out (by have := HML21.out; omega) (by simp; omega) ?_
          intro v5 w5 hown5 hgrow5 hat5
          obtain ⟨p5, d5, rfl⟩ := own_formL hown5
          obtain ⟨LW5, BX5, KP5⟩ := leaf1 HLW.out HBX.out hlt7 hWsz HB7.out hown5 hgrow5 hat5
          clear k0 k1 k2 k3 k4 m0 m1 m2 m3 m4
          obtain ⟨⟨k0, k1, k2⟩, k3, k4⟩ := BX5
          refine hK.out _ _ trivial (fun hHeld2 => ?_)
          clear hK K
          (try simp only [Act.put, List.setIfInBounds_toArray, List.set_cons_zero, List.set_cons_succ])
          refine wpAnyH_take (i := 6) (oi := { dst := some 33, op := Op.fieldAddr 34 (Operand.tmp 3) 1, type := 0, pos := "l7_machine.go:356", after := #[{ on := 0, ground := Ground.phase }, { on := 1, ground := Ground.phase }, { on := 2, ground := Ground.phase }, { on := 3, ground := Ground.phase }, { on := 4, ground := Ground.phase }, { on := 5, ground := Ground.phase }], guard := none }) (v := ?_) rfl (by kernel_rfl) (by kernel_rfl) (by kernel_rfl) (fun _ _ _ h => nomatch h.1) (Or.inl ⟨by rfl, ?_⟩) (by assumption) ?_
          rotate_left
          · (intro wS hSw; go_simp; (try with_reducible rfl))
          (try simp only [Act.put, List.setIfInBounds_toArray, List.set_cons_zero, List.set_cons_succ])
          refine wpAnyH_ready (rs := [7]) (by kernel_rfl) (by simp) ?_
          refine AllReadyH.cons (o := { dst := none, op := Op.store 32 (Operand.tmp 33) (Operand.tmp 32), type := 0, pos := "l7_machine.go:356", after := #[{ on := 6, ground := Ground.data }, { on := 5, ground := Ground.data }, { on := 5, ground := Ground.chain }, { on := 0, ground := Ground.phase }, { on := 1, ground := Ground.phase }, { on := 2, ground := Ground.phase }, { on := 3, ground := Ground.phase }, { on := 4, ground := Ground.phase }, { on := 5, ground := Ground.phase }], guard := none }) rfl (fun K hK => ?_) AllReadyH.nil
          go_simp
          refine hK.out _ _ trivial (fun hHeld2 => ?_)
          clear hK K
          (try simp only [Act.put, List.setIfInBounds_toArray, List.set_cons_zero, List.set_cons_succ])
          refine wpAnyH_done (by kernel_rfl) ?_ _
          exact ⟨rfl, ⟨_, _, _, _, _, _, _, _, _, _, _, _, _, _, rfl⟩, _, _, fin1 ⟨⟨k0, k1, k2⟩, k3, k4⟩ LW5 hlt7, KP5.set _ _⟩
        · go_simp
          refine hK.out _ _ trivial (fun hHeld2 => ?_)
          clear hK K
          (try simp only [Act.put, List.setIfInBounds_toArray, List.set_cons_zero, List.set_cons_succ])
          refine wpAnyH_ready (rs := [1]) (by kernel_rfl) (by simp) ?_
          refine AllReadyH.cons (o := { dst := some 28, op := Op.load 32 (Operand.tmp 27), type := 32, pos := "l7_machine.go:356", after := #[{ on := 0, ground := Ground.data }], guard := none }) rfl (fun K hK => ?_) AllReadyH.nil
          go_simp
          refine hK.out _ _ trivial (fun hHeld2 => ?_)
          clear hK K
          (try simp only [Act.put, List.setIfInBounds_toArray, List.set_cons_zero, List.set_cons_succ])
          refine wpAnyH_ready (rs := [5]) (by kernel_rfl) (by simp) ?_
          refine AllReadyH.cons (o := { dst := some 32, op := Op.call { callee := Callee.builtin Builtin.append, args := #[Operand.tmp 28, Operand.tmp 31], argTypes := #[32, 32] }, type := 32, pos := "l7_machine.go:356", after := #[{ on := 1, ground := Ground.data }, { on := 4, ground := Ground.data }, { on := 3, ground := Ground.chain }], guard := none }) rfl (fun K hK => ?_) AllReadyH.nil
          refine step_append_rd rfl (.tmp 28) (.tmp 31) 32 rfl (w.heap.size + 7) 3 i0 (.int .i64 0) 1 8 Tryd.underlying32 hi hi0 hi1 hi2 rfl (by decide) u2 _ _ (by simp [Act.eval]) (ownsRow_kept HLW.out.h2 (HB7.out.trans ((below_alloc w7 (.cells #[.int .i64 v1] 3)).mono HB7.out.size))) ⟨w7.heap.size, 0, none⟩ 1 1 [.int .i64 v1] (by simp [Act.eval]) rfl (fun j u hu => new_cell _ _ _ hu) (by simp [Value.oneCell']) HML1.out (by have := HML21.out; omega) (by simp; omega) ?_
          intro v5 w5 hown5 hgrow5 hat5
          obtain ⟨p5, d5, rfl⟩ := own_formL hown5
          obtain ⟨LW5, BX5, KP5⟩ := leaf1 HLW.out HBX.out hlt7 hWsz HB7.out hown5 hgrow5 hat5
          clear k0 k1 k2 k3 k4 m0 m1 m2 m3 m4
          obtain ⟨⟨k0, k1, k2⟩, k3, k4⟩ := BX5
          refine hK.out _ _ trivial (fun hHeld2 => ?_)
          clear hK K
          (try simp only [Act.put, List.setIfInBounds_toArray, List.set_cons_zero, List.set_cons_succ])
          refine wpAnyH_take (i := 6) (oi := { dst := some 33, op := Op.fieldAddr 34 (Operand.tmp 3) 1, type := 0, pos := "l7_machine.go:356", after := #[{ on := 0, ground := Ground.phase }, { on := 1, ground := Ground.phase }, { on := 2, ground := Ground.phase }, { on := 3, ground := Ground.phase }, { on := 4, ground := Ground.phase }, { on := 5, ground := Ground.phase }], guard := none }) (v := ?_) rfl (by kernel_rfl) (by kernel_rfl) (by kernel_rfl) (fun _ _ _ h => nomatch h.1) (Or.inl ⟨by rfl, ?_⟩) (by assumption) ?_
          rotate_left
          · (intro wS hSw; go_simp; (try with_reducible rfl))
          (try simp only [Act.put, List.setIfInBounds_toArray, List.set_cons_zero, List.set_cons_succ])
          refine wpAnyH_ready (rs := [7]) (by kernel_rfl) (by simp) ?_
          refine AllReadyH.cons (o := { dst := none, op := Op.store 32 (Operand.tmp 33) (Operand.tmp 32), type := 0, pos := "l7_machine.go:356", after := #[{ on := 6, ground := Ground.data }, { on := 5, ground := Ground.data }, { on := 5, ground := Ground.chain }, { on := 0, ground := Ground.phase }, { on := 1, ground := Ground.phase }, { on := 2, ground := Ground.phase }, { on := 3, ground := Ground.phase }, { on := 4, ground := Ground.phase }, { on := 5, ground := Ground.phase }], guard := none }) rfl (fun K hK => ?_) AllReadyH.nil
          go_simp
          refine hK.out _ _ trivial (fun hHeld2 => ?_)
          clear hK K
          (try simp only [Act.put, List.setIfInBounds_toArray, List.set_cons_zero, List.set_cons_succ])
          refine wpAnyH_done (by kernel_rfl) ?_ _
          exact ⟨rfl, ⟨_, _, _, _, _, _, _, _, _, _, _, _, _, _, rfl⟩, _, _, fin1 ⟨⟨k0, k1, k2⟩, k3, k4⟩ LW5 hlt7, KP5.set _ _⟩
    rintro e a' w6 ⟨rfl, ⟨z0, z1, z2, z3, z4, z5, z6, z7, z8, z9, z10, z11, z12, z13, rfl⟩, p6, d6, ⟨hbx6, hlw6⟩, hk6⟩
    have KP := HK3.out.trans (HK4.out.trans hk6)
    refine ⟨KP.size, KP.block _ (by omega) (by omega), KP.block _ (by omega) (by omega), KP.block _ (by omega) (by omega), HCAP.out.of KP.size (KP.block _ (by omega) (by omega)) (KP.block _ (by omega) (by omega)) (KP.block _ (by omega) (by omega)), H1.out.trans (KP.below (n := w.heap.size) (by omega) (by omega)), H2.out.of KP.size (KP.block _ (by omega) (by omega)), _, _, hbx6, ?_⟩
    rw [HNS.out, HDS.out]
    exact hlw6
  case done =>
    rintro W ⟨h1, h2, u1, u2, h3, h4⟩ hK
    have H1 := Lib.hid h1
    have H4 := Lib.hid h4
    have HKK := Lib.hid hK
    have H3 := Lib.hid h3
    obtain ⟨p1, d1, e1⟩ := own_formL h4.h1
    obtain ⟨p2, d2, e2⟩ := own_formL h4.h2
    subst e1 e2
    obtain ⟨⟨k0, k1, k2⟩, k3, k4⟩ := h3
    obtain ⟨⟨m0, m1, m2⟩, m3, m4⟩ := h2
    clear h1 h4 hK hbel hbR hbM hcap hit
    gi_wp2
    generalize hXS : rdN (spB 44 s) = xs at *
    generalize hYS : rdD (spB 44 s) = ys at *
    have hl : ys.length = xs.length := by rw [← hXS, ← hYS, rdN_len, rdD_len]
    have hws := H1.out.size
    have e1 : ∀ q, q ≠ w.heap.size → ((W.setCell ⟨w.heap.size, 0, none⟩ (.slice p1 xs.length d1)).setCell ⟨w.heap.size, 1, none⟩ (.slice p2 ys.length d2)).heap[q]? = W.heap[q]? := fun q h => (Below.heap_setCell _ _ _ _ h).trans (Below.heap_setCell _ _ _ _ h)
    have hK' := (e1 w1.heap.size (by omega)).trans HKK.out
    have HLF := (H4.out.set (O := w.heap.size) (k := 0) (by omega) (.slice p1 xs.length d1)).set (O := w.heap.size) (k := 1) (by omega) (.slice p2 ys.length d2)
    have hbF := (H1.out.setCell (p := ⟨w.heap.size, 0, none⟩) (Nat.le_refl _) (.slice p1 xs.length d1)).setCell (p := ⟨w.heap.size, 1, none⟩) (Nat.le_refl _) (.slice p2 ys.length d2)
    have g0 : ((W.setCell ⟨w.heap.size, 0, none⟩ (.slice p1 xs.length d1)).setCell ⟨w.heap.size, 1, none⟩ (.slice p2 ys.length d2)).cell? ⟨w.heap.size, 0, none⟩ = some (.slice p1 xs.length d1) := by go_simp
    have g1 : ((W.setCell ⟨w.heap.size, 0, none⟩ (.slice p1 xs.length d1)).setCell ⟨w.heap.size, 1, none⟩ (.slice p2 ys.length d2)).cell? ⟨w.heap.size, 1, none⟩ = some (.slice p2 ys.length d2) := by go_simp
    have hzF : ((W.setCell ⟨w.heap.size, 0, none⟩ (.slice p1 xs.length d1)).setCell ⟨w.heap.size, 1, none⟩ (.slice p2 ys.length d2)).heap.size = W.heap.size := by simp
    generalize (W.setCell ⟨w.heap.size, 0, none⟩ (.slice p1 xs.length d1)).setCell ⟨w.heap.size, 1, none⟩ (.slice p2 ys.length d2) = WF at *
    refine ⟨by simp, .inl ⟨_, _, rfl, run_takeDeferred hK', ?_⟩⟩
    have hp := below_putObj (n := w1.heap.size) (l := w1.heap.size) WF (.deferred none) (Nat.le_refl _)
    have g0' := (hp.cell (p := ⟨w.heap.size, 0, none⟩) (by dsimp only; omega)).trans g0
    have g1' := (hp.cell (p := ⟨w.heap.size, 1, none⟩) (by dsimp only; omega)).trans g1
    refine ⟨.agg #[.slice p1 xs.length d1, .slice p2 ys.length d2], ?_, ⟨_, rfl, ?_, ?_⟩⟩
    · simp [results, Tryd.f47, go_sem, g0', g1']
    · have HT := HLF.touch ((Touch.refl w1.heap.size (w1.heap.size + 1) WF).putObj (Nat.le_refl _) (Nat.lt_succ_self _) (.deferred none)) (by omega)
      rw [hl] at HT ⊢
      exact lw_mac HT (by omega) rfl rfl rfl hl
    · exact hbF.trans (hp.mono (by omega))
/-- 'readMachine'. -/
def rmN (s : ByteArray) : List Int := if s = byt [45] then [] else rdN (spB 44 s)
def rmD (s : ByteArray) : List Int := if s = byt [45] then [] else rdD (spB 44 s)
theorem rm_len (s : ByteArray) : (rmD s).length = (rmN s).length := by
  unfold rmD rmN
  split
  · rfl
  · rw [rdN_len, rdD_len]
theorem b45 : (byt [45]).toList = [45] := ByteArray.toList_eq _
theorem readMachine_any (s : ByteArray) (hs : s.size ≤ 1048576) (w : World) (hw : Set3 w) :
    Calls Tryd.prog 47 #[.string s] w fun e w' => ∃ v, e = .returned v ∧ MacAt w' w.heap.size w'.heap.size v (rmN s) (rmD s) ∧ Below w.heap.size w w' := by
  by_cases h : s = byt [45]
  · have e1 : rmN s = [] := by rw [rmN, if_pos h]
    have e2 : rmD s = [] := by rw [rmD, if_pos h]
    rw [e1, e2]
    subst h
    have hm : ((byt [45]).toList == [45]) = true := by rw [b45]; rfl
    clear e1 e2 hw hs
    go_enter Tryd.func47, Tryd.ntmps47
    go_wp2_with fail
    refine bodyPost_ret (v := .agg #[.slice none 0 0, .slice none 0 0]) (by simp [results, Tryd.f47, go_sem]) rfl ⟨_, rfl, ⟨Nat.le_refl _, none, 0, none, 0, rfl, fun h => (h rfl).elim, fun h => (h rfl).elim, fun h => (h rfl).elim⟩, ?_⟩
    exact ((Below.refl _ w).alloc (Nat.le_refl _) _).alloc (by simp) _
  · have e1 : rmN s = rdN (spB 44 s) := by rw [rmN, if_neg h]
    have e2 : rmD s = rdD (spB 44 s) := by rw [rmD, if_neg h]
    rw [e1, e2]
    exact readMachine0 s hs (by have := str_ne h; rwa [b45] at this) w hw
end Go.Proofs.YtgobjobppajkbaaDoor
