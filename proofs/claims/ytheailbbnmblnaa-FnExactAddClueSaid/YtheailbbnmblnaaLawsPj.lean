/-
  THE WALK OF THE LAW 'AddClue'.
-/
import Derived.Test.YtheailbbnmblnaaAds
import Derived.Test.YtheailbbnmblnaaArgCl
import Derived.Deep.RegionWith
import Derived.Deep.CutRange
namespace Go.Proofs.Ytheailbbnmblnaa
open Go.RowKit
set_option linter.unusedVariables false

/-- A box that holds a clue. -/
def CBx (w : World) (b : Nat) (k a c : Int) : Prop := (w.cell? ⟨b, 0, none⟩ = some (.int .i64 k) ∧ w.cell? ⟨b, 1, none⟩ = some (.int .i64 a) ∧ w.cell? ⟨b, 2, none⟩ = some (.int .i64 c)) ∧ b < w.heap.size
theorem CBx.of {w w' : World} {b : Nat} {k a c : Int} (h : CBx w b k a c) (hs : w.heap.size ≤ w'.heap.size) (he : w'.heap[b]? = w.heap[b]?) : CBx w' b k a c :=
  ⟨⟨(World.cell?_of_block (a := ⟨b, _, none⟩) he).trans h.1.1, (World.cell?_of_block (a := ⟨b, _, none⟩) he).trans h.1.2.1, (World.cell?_of_block (a := ⟨b, _, none⟩) he).trans h.1.2.2⟩, Nat.lt_of_lt_of_le h.2 hs⟩
theorem CBx.kept {w w' : World} {b : Nat} {k a c : Int} (h : CBx w b k a c) (hb : Below w.heap.size w w') : CBx w' b k a c := h.of hb.size (hb.block b h.2)
theorem CBx.touch {w w' : World} {lo hi b : Nat} {k a c : Int} (h : CBx w b k a c) (ht : Touch lo hi w w') (hd : b < lo ∨ hi ≤ b) : CBx w' b k a c := h.of ht.size (ht.block b h.2 hd)
theorem CBx.new (w : World) (k a c : Int) (T : TypeId) {b : Nat} (hb : w.heap.size = b) : CBx (w.alloc (.cells #[.int .i64 k, .int .i64 a, .int .i64 c] T)) b k a c := by
  subst hb
  exact ⟨⟨by go_simp, by go_simp, by go_simp⟩, by simp⟩
/-- The box of what a call gave, and the row of what it holds. -/
def BoxOf (w0 wx : World) (b6 : Nat) (tx ty : Int) (xs : List Pt) (v6 v7 : Value) (ok : Bool) : Prop :=
  ∃ (lo6 hi6 : Nat) (a3 : Option Addr) (c3 : Nat), v6 = .pointer (some ⟨b6, 0, none⟩) ∧ v7 = .bool ok ∧ Hid (Bz wx b6 tx ty (.slice a3 xs.length c3) ∧ w0.heap.size ≤ b6) ∧ Hid (PuzAt wx lo6 hi6 (.agg #[.int .i64 tx, .int .i64 ty, .slice a3 xs.length c3]) tx ty xs ∧ w0.heap.size ≤ lo6 ∧ (b6 < lo6 ∨ hi6 ≤ b6)) ∧ Hid (Below w0.heap.size w0 wx)
theorem box_end {w0 w5 : World} {lo : Nat} {tx ty : Int} {xs : List Pt} {a : Option Addr} {c : Nat} {T : TypeId} (ok : Bool) (hM : PuzAt w5 lo w5.heap.size (.agg #[.int .i64 tx, .int .i64 ty, .slice a xs.length c]) tx ty xs) (hX : Below w0.heap.size w0 w5) (hl : w0.heap.size ≤ lo) :
    ∃ b6, BoxOf w0 (w5.alloc (.cells #[.int .i64 tx, .int .i64 ty, .slice a xs.length c] T)) b6 tx ty xs (.pointer (some ⟨w5.heap.size, 0, none⟩)) (.bool ok) ok :=
  ⟨_, lo, w5.heap.size, a, c, rfl, rfl, Lib.hid ⟨Bz.new _ _ _ _ _, hX.size⟩, Lib.hid ⟨hM.kept (below_new _ _), hl, .inr (Nat.le_refl _)⟩, Lib.hid (hX.trans ((below_new _ _).mono hX.size))⟩
theorem box_out {w0 w5 : World} {b lo : Nat} {x y tx ty : Int} {u : Value} {xs : List Pt} {a : Option Addr} {c : Nat} (ok : Bool) (hT : BzF w5 b x y u) (hM : PuzAt w5 lo w5.heap.size (.agg #[.int .i64 tx, .int .i64 ty, .slice a xs.length c]) tx ty xs) (hX : Below w0.heap.size w0 w5) (hb : w0.heap.size ≤ b) (hl : w0.heap.size ≤ lo) (hbl : b < lo) :
    ∃ b6, BoxOf w0 (put3 w5 b tx ty (.slice a xs.length c)) b6 tx ty xs (.pointer (some ⟨b, 0, none⟩)) (.bool ok) ok :=
  ⟨b, lo, w5.heap.size, a, c, rfl, rfl, Lib.hid ⟨⟨put3_cells hT tx ty _, Nat.lt_of_lt_of_eq hT.1.2 (put3_size _ _ _ _ _).symm⟩, hb⟩, Lib.hid ⟨hM.of (Nat.le_of_eq (put3_size _ _ _ _ _).symm) (fun g h1 _ => put3_heap _ _ _ _ _ (by omega)), hl, .inl hbl⟩, Lib.hid (put3_below hX hb _ _ _)⟩

set_option maxHeartbeats 8000000 in
theorem fnExactAddClue_law (v : Value) (t p : Int) (ps : List Pt) (ck ca cb : Int) (w : World) (harg : ArgZ w v t p ps) :
    Calls Try.prog 12 #[v, .agg #[.int .i64 ck, .int .i64 ca, .int .i64 cb]] w fun e w' => e = .returned (.bool true) ∧ Below w.heap.size w w' := by
  have HSZ := Lib.hid (fun W (hb : Below w.heap.size w W) => szPuzzle_any t p ps v W (harg.kept hb))
  have HTO := Lib.hid (fun l W (hb : Below w.heap.size w W) => toPuzzle_any t p ps v W l (harg.kept hb))
  obtain ⟨v1, rfl, a1, c1, rfl, h1, _⟩ := harg
  by_cases hsz : 1048576 < ps.length
  case pos =>
    have HE := Lib.hid (szO_neg hsz)
    have HB := Lib.hid ((below_new w (.cells #[.int .i64 t, .int .i64 p, .slice a1 ps.length c1] 32)).alloc (by simp) (.cells #[.int .i64 ck, .int .i64 ca, .int .i64 cb] 23))
    clear h1 hsz HTO
    generalize ps.length = n1 at *
    generalize szO n1 = left at *
    have hneg := HE.out
    go_enter Try.func12, Try.ntmps12
    go_wp2_with fail
    refine (HSZ.out _ HB.out).mono ?_
    rintro e w1 ⟨rfl, hb1⟩
    go_wp2_with fail
    go_ret
    exact ⟨rfl, HB.out.trans (hb1.mono HB.out.size)⟩
  have hneg := szO_pos hsz
  have l : ps.length ≤ 1048576 := by omega
  replace HTO := Lib.hid (HTO.out l)
  have HS := Lib.hid (fun W u (hm : PuzIn W u t p ps) => sAddClue t p ps ck ca cb u W l hm)
  have HI := Lib.hid (fun W u (hm : PuzIn W u t p ps) => iAddClue t p ps ck ca cb u W l hm)
  have HTC := Lib.hid (fun W => toClue_any ck ca cb W)
  have HQ := Lib.hid (fun W u u' (hm : PuzIn W u t p ps) (hm' : PuzIn W u' t p ps) => eqPuzzle_any t p ps u u' W l hm hm')
  have HMX := Lib.hid (fun W lo hi u (hm : PuzAt W lo hi u t p ps) => markPuzzle_any t p ps u lo hi W l hm)
  have HLX := Lib.hid (acX_len t p ps (ck, ca, cb))
  generalize acX t p ps (ck, ca, cb) = xs at HS HI HLX
  generalize ifT (acB t p ps (ck, ca, cb)) t = tx at HS HI
  generalize ifT (acB t p ps (ck, ca, cb)) p = ty at HS HI
  generalize acB t p ps (ck, ca, cb) = ok at HS HI
  have B := Lib.hid ((Bz.new w t p (.slice a1 ps.length c1) 32).grow (.cells #[.int .i64 ck, .int .i64 ca, .int .i64 cb] 23))
  have C : Hid (CBx ((w.alloc (.cells #[.int .i64 t, .int .i64 p, .slice a1 ps.length c1] 32)).alloc (.cells #[.int .i64 ck, .int .i64 ca, .int .i64 cb] 23)) (w.heap.size + 1) ck ca cb) := Lib.hid (CBx.new _ ck ca cb _ (by simp))
  have HB := Lib.hid ((below_new w (.cells #[.int .i64 t, .int .i64 p, .slice a1 ps.length c1] 32)).alloc (by simp) (.cells #[.int .i64 ck, .int .i64 ca, .int .i64 cb] 23))
  have hkx : (ps.length : Int) ≤ 1048576 := by omega
  clear h1 hsz l
  obtain ⟨n1, hn1⟩ : ∃ n1, ps.length = n1 := ⟨_, rfl⟩
  rw [hn1] at HSZ HTO B C HB hkx hneg HMX ⊢
  have HN1 := Lib.hid hn1
  clear hn1
  generalize szO n1 = left at *
  go_enter Try.func12, Try.ntmps12
  go_wp2_with fail
  refine (HSZ.out _ HB.out).mono ?_
  rintro e w1 ⟨rfl, hb1⟩
  replace B := Lib.hid (B.out.kept hb1)
  replace C := Lib.hid (C.out.kept hb1)
  replace HB := Lib.hid (HB.out.trans (hb1.mono HB.out.size))
  clear hb1
  obtain ⟨⟨b0, b1, b2⟩, b3⟩ := B.out
  have nb0 := Nat.ne_of_gt b3
  obtain ⟨⟨e0, e1, e2⟩, e3⟩ := C.out
  have ne0 := Nat.ne_of_gt e3
  have HX : Hid (Below w1.heap.size w1 w1) := Lib.hid (Below.refl _ _)
  go_upto_region 5 with fail
  go_cut [6, 7] from 21 to 28 (fun s6 s7 wx => ∃ b6, BoxOf w1 wx b6 tx ty xs s6 s7 ok)
  case first =>
    go_region_held3 (fun w' => (w'.cell? ⟨w.heap.size, 0, none⟩ = some (.int .i64 t) ∧ w'.cell? ⟨w.heap.size, 1, none⟩ = some (.int .i64 p) ∧ w'.cell? ⟨w.heap.size, 2, none⟩ = some (.slice a1 n1 c1)) ∧ w'.cell? ⟨w.heap.size + 1, 0, none⟩ = some (.int .i64 ck) ∧ w'.cell? ⟨w.heap.size + 1, 1, none⟩ = some (.int .i64 ca) ∧ w'.cell? ⟨w.heap.size + 1, 2, none⟩ = some (.int .i64 cb)) (go_keep)
      ((first
      | (go_at_call 20; refine (HTO.out _ (HB.out.trans (Below.mono (by first | exact HX.out | exact HX.out.drew | exact HX.out.drew.drew | exact HX.out.alloc HX.out.size _ | exact (HX.out.alloc HX.out.size _).drew | exact HX.out.drew.alloc HX.out.drew.size _ | exact (HX.out.drew.alloc HX.out.drew.size _).drew) HB.out.size))).mono ?_; rintro e wA ⟨u0, rfl, m0, hbA⟩; have M := Lib.hid m0.isIn; clear m0; (first | (replace HX := Lib.hid (HX.out.trans (hbA.mono HX.out.size))) | (replace HX := Lib.hid (HX.out.trans (((Below.refl _ _).drew.trans hbA).mono HX.out.size))) | (replace HX := Lib.hid (HX.out.trans (((Below.refl _ _).drew.drew.trans hbA).mono HX.out.size))) | (replace HX := Lib.hid (HX.out.trans (((below_new _ _).trans (hbA.mono (by simp))).mono HX.out.size))) | (replace HX := Lib.hid (HX.out.trans (((below_new _ _).drew.trans (hbA.mono (by simp))).mono HX.out.size))) | (replace HX := Lib.hid (HX.out.trans ((((Below.refl _ _).drew.trans (below_new _ _)).trans (hbA.mono (by simp))).mono HX.out.size))) | (replace HX := Lib.hid (HX.out.trans ((((Below.refl _ _).drew.trans (below_new _ _)).drew.trans (hbA.mono (by simp))).mono HX.out.size))) | (replace HX := Lib.hid (HX.out.trans ((((Below.refl _ _).drew.trans (below_new _ _)).drew.drew.trans (hbA.mono (by simp))).mono HX.out.size)))); (first | (replace HT3 := Lib.hid (HT3.out.kept hbA)) | (replace HT3 := Lib.hid (HT3.out.kept ((Below.refl _ _).drew.trans hbA))) | (replace HT3 := Lib.hid (HT3.out.kept ((Below.refl _ _).drew.drew.trans hbA))) | (have HT3 := Lib.hid (BzF.kept (BzF.new _ 0 0 (.slice none 0 0) 38 rfl) hbA)) | (have HT3 := Lib.hid (BzF.kept (BzF.new _ 0 0 (.slice none 0 0) 38 rfl) ((Below.refl _ _).drew.trans hbA))) | (have HT3 := Lib.hid (BzF.kept (BzF.new _ 0 0 (.slice none 0 0) 38 rfl) ((Below.refl _ _).drew.drew.trans hbA)))| skip); obtain ⟨⟨b0, b1, b2⟩, b3⟩ := B.out.kept HX.out; have nb3 := Nat.ne_of_gt b3; obtain ⟨⟨e0, e1, e2⟩, e3⟩ := C.out.kept HX.out; have ne3 := Nat.ne_of_gt e3; have hsz := HX.out.size; clear hbA)
      | (go_at_call 16; refine (HTC.out _).mono ?_; rintro e wA ⟨rfl, hbA⟩; (first | (replace M := Lib.hid (M.out.kept hbA)) | (replace M := Lib.hid (M.out.kept ((Below.refl _ _).drew.trans hbA))) | (replace M := Lib.hid (M.out.kept ((Below.refl _ _).drew.drew.trans hbA))) | (replace M := Lib.hid (M.out.kept ((below_new _ _).trans (hbA.mono (by simp))))) | (replace M := Lib.hid (M.out.kept ((below_new _ _).drew.trans (hbA.mono (by simp))))) | (replace M := Lib.hid (M.out.kept (((Below.refl _ _).drew.trans (below_new _ _)).trans (hbA.mono (by simp))))) | (replace M := Lib.hid (M.out.kept (((Below.refl _ _).drew.trans (below_new _ _)).drew.trans (hbA.mono (by simp))))) | (replace M := Lib.hid (M.out.kept (((Below.refl _ _).drew.trans (below_new _ _)).drew.drew.trans (hbA.mono (by simp)))))| skip); (first | (replace HX := Lib.hid (HX.out.trans (hbA.mono HX.out.size))) | (replace HX := Lib.hid (HX.out.trans (((Below.refl _ _).drew.trans hbA).mono HX.out.size))) | (replace HX := Lib.hid (HX.out.trans (((Below.refl _ _).drew.drew.trans hbA).mono HX.out.size))) | (replace HX := Lib.hid (HX.out.trans (((below_new _ _).trans (hbA.mono (by simp))).mono HX.out.size))) | (replace HX := Lib.hid (HX.out.trans (((below_new _ _).drew.trans (hbA.mono (by simp))).mono HX.out.size))) | (replace HX := Lib.hid (HX.out.trans ((((Below.refl _ _).drew.trans (below_new _ _)).trans (hbA.mono (by simp))).mono HX.out.size))) | (replace HX := Lib.hid (HX.out.trans ((((Below.refl _ _).drew.trans (below_new _ _)).drew.trans (hbA.mono (by simp))).mono HX.out.size))) | (replace HX := Lib.hid (HX.out.trans ((((Below.refl _ _).drew.trans (below_new _ _)).drew.drew.trans (hbA.mono (by simp))).mono HX.out.size)))); (first | (replace HT3 := Lib.hid (HT3.out.kept hbA)) | (replace HT3 := Lib.hid (HT3.out.kept ((Below.refl _ _).drew.trans hbA))) | (replace HT3 := Lib.hid (HT3.out.kept ((Below.refl _ _).drew.drew.trans hbA))) | (have HT3 := Lib.hid (BzF.kept (BzF.new _ 0 0 (.slice none 0 0) 38 rfl) hbA)) | (have HT3 := Lib.hid (BzF.kept (BzF.new _ 0 0 (.slice none 0 0) 38 rfl) ((Below.refl _ _).drew.trans hbA))) | (have HT3 := Lib.hid (BzF.kept (BzF.new _ 0 0 (.slice none 0 0) 38 rfl) ((Below.refl _ _).drew.drew.trans hbA)))| skip); obtain ⟨⟨b0, b1, b2⟩, b3⟩ := B.out.kept HX.out; have nb3 := Nat.ne_of_gt b3; obtain ⟨⟨e0, e1, e2⟩, e3⟩ := C.out.kept HX.out; have ne3 := Nat.ne_of_gt e3; have hsz := HX.out.size; clear hbA)
      | (go_at_call 43; refine (HS.out _ _ (by first | exact M.out | exact M.out.kept (Below.refl _ _).drew | exact M.out.kept (Below.refl _ _).drew.drew | exact M.out.kept (below_new _ _) | exact M.out.kept (below_new _ _).drew | exact M.out.kept ((Below.refl _ _).drew.trans (below_new _ _)) | exact M.out.kept ((Below.refl _ _).drew.trans (below_new _ _)).drew)).mono ?_; rintro e wR ⟨u3, rfl, m3, hbA⟩; (first | (have hbb := HT3.out.1.2) | skip); (first | (replace HX := Lib.hid (HX.out.trans (hbA.mono HX.out.size))) | (replace HX := Lib.hid (HX.out.trans (((Below.refl _ _).drew.trans hbA).mono HX.out.size))) | (replace HX := Lib.hid (HX.out.trans (((Below.refl _ _).drew.drew.trans hbA).mono HX.out.size))) | (replace HX := Lib.hid (HX.out.trans (((below_new _ _).trans (hbA.mono (by simp))).mono HX.out.size))) | (replace HX := Lib.hid (HX.out.trans (((below_new _ _).drew.trans (hbA.mono (by simp))).mono HX.out.size))) | (replace HX := Lib.hid (HX.out.trans ((((Below.refl _ _).drew.trans (below_new _ _)).trans (hbA.mono (by simp))).mono HX.out.size))) | (replace HX := Lib.hid (HX.out.trans ((((Below.refl _ _).drew.trans (below_new _ _)).drew.trans (hbA.mono (by simp))).mono HX.out.size))) | (replace HX := Lib.hid (HX.out.trans ((((Below.refl _ _).drew.trans (below_new _ _)).drew.drew.trans (hbA.mono (by simp))).mono HX.out.size)))); (first | (replace HT3 := Lib.hid (HT3.out.kept hbA)) | (replace HT3 := Lib.hid (HT3.out.kept ((Below.refl _ _).drew.trans hbA))) | (replace HT3 := Lib.hid (HT3.out.kept ((Below.refl _ _).drew.drew.trans hbA))) | (have HT3 := Lib.hid (BzF.kept (BzF.new _ 0 0 (.slice none 0 0) 38 rfl) hbA)) | (have HT3 := Lib.hid (BzF.kept (BzF.new _ 0 0 (.slice none 0 0) 38 rfl) ((Below.refl _ _).drew.trans hbA))) | (have HT3 := Lib.hid (BzF.kept (BzF.new _ 0 0 (.slice none 0 0) 38 rfl) ((Below.refl _ _).drew.drew.trans hbA)))| skip); obtain ⟨⟨b0, b1, b2⟩, b3⟩ := B.out.kept HX.out; have nb3 := Nat.ne_of_gt b3; obtain ⟨⟨e0, e1, e2⟩, e3⟩ := C.out.kept HX.out; have ne3 := Nat.ne_of_gt e3; have hsz := HX.out.size; have HM3 := Lib.hid m3; obtain ⟨hh3, a3, c3, rfl, _⟩ := m3; clear hbA hh3; first | (obtain ⟨x0, x1, x2, x3, x4, x5⟩ := HT3.out.cells) | skip)))
    all_goals
      go_wp2_with fail
      go_meet
      case rel =>
        first
        | exact box_end ok HM3.out HX.out (by first | exact Nat.le_refl _ | omega | (simp; omega))
        | exact box_out ok HT3.out HM3.out HX.out (by first | exact Nat.le_refl _ | omega | (simp; omega)) (by first | exact Nat.le_refl _ | omega | (simp; omega)) (by first | exact Nat.le_refl _ | omega | (simp; omega) | simp)
  case rest =>
  clear HX
  clear b0 b1 b2 nb0 b3
  clear e0 e1 e2 ne0 e3
  obtain ⟨b6, lo6, hi6, a3, c3, rfl, rfl, X3, M3, HX5⟩ := hcut
  obtain ⟨w3, rfl⟩ : ∃ W, W = wc := ⟨_, rfl⟩
  have hzC : w.heap.size + 1 < w1.heap.size := C.out.2
  have hz1 := HX5.out.size
  have hl6 := M3.out.2.1
  have M0 := Lib.hid M3.out.1
  have B0 := Lib.hid X3.out.1
  have hb6 := B0.out.2
  have hi6' := M0.out.1
  replace B := Lib.hid (B.out.kept HX5.out)
  replace C := Lib.hid (C.out.kept HX5.out)
  replace HB := Lib.hid (HB.out.trans (HX5.out.mono HB.out.size))
  clear HX5 X3 M3 HS
  obtain ⟨⟨Bp0, Bpa, Bpb⟩, Bp2⟩ := B.out
  go_wp2_with fail
  refine (HTO.out _ HB.out).mono ?_
  rintro e w4 ⟨u1, rfl, m1, hb4⟩
  have hz4 := hb4.size
  clear Bp0 Bpa Bpb Bp2
  replace B := Lib.hid (B.out.kept hb4)
  replace C := Lib.hid (C.out.kept hb4)
  replace B0 := Lib.hid (B0.out.kept hb4)
  replace M0 := Lib.hid (M0.out.kept hb4)
  replace HB := Lib.hid (HB.out.trans (hb4.mono HB.out.size))
  clear hb4
  have MX := Lib.hid m1
  obtain ⟨_, a5, c5, rfl, _⟩ := m1
  rw [HN1.out] at MX ⊢
  have X := Lib.hid (Bz.new w4 t p (.slice a5 n1 c5) 38)
  replace B := Lib.hid (B.out.kept (below_new w4 (.cells #[.int .i64 t, .int .i64 p, .slice a5 n1 c5] 38)))
  replace C := Lib.hid (C.out.kept (below_new w4 (.cells #[.int .i64 t, .int .i64 p, .slice a5 n1 c5] 38)))
  replace B0 := Lib.hid (B0.out.kept (below_new w4 (.cells #[.int .i64 t, .int .i64 p, .slice a5 n1 c5] 38)))
  replace M0 := Lib.hid (M0.out.kept (below_new w4 (.cells #[.int .i64 t, .int .i64 p, .slice a5 n1 c5] 38)))
  replace MX := Lib.hid (MX.out.kept (below_new w4 (.cells #[.int .i64 t, .int .i64 p, .slice a5 n1 c5] 38)))
  replace HB := Lib.hid (HB.out.trans ((below_new w4 (.cells #[.int .i64 t, .int .i64 p, .slice a5 n1 c5] 38)).mono HB.out.size))
  go_upto_region 7 with fail
  generalize hw5 : w4.alloc (.cells #[.int .i64 t, .int .i64 p, .slice a5 n1 c5] 38) = w5 at B C B0 M0 MX X HB ⊢
  have hz5 : w4.heap.size + 1 ≤ w5.heap.size := by rw [← hw5]; simp
  clear hw5
  have M := Lib.hid MX.out.isIn
  obtain ⟨⟨b0, b1, b2⟩, b3⟩ := X.out
  have nb0 := Nat.ne_of_gt b3
  obtain ⟨⟨e0, e1, e2⟩, e3⟩ := C.out
  have ne0 := Nat.ne_of_gt e3
  have HX : Hid (Below w5.heap.size w5 w5) := Lib.hid (Below.refl _ _)
  go_upto_region 7 with fail
  go_cut [9, 10] from 31 to 37 (fun s6 s7 wx => ∃ b6, BoxOf w5 wx b6 tx ty xs s6 s7 ok)
  case first =>
    go_region_held3 (fun w' => (w'.cell? ⟨w4.heap.size, 0, none⟩ = some (.int .i64 t) ∧ w'.cell? ⟨w4.heap.size, 1, none⟩ = some (.int .i64 p) ∧ w'.cell? ⟨w4.heap.size, 2, none⟩ = some (.slice a5 n1 c5)) ∧ w'.cell? ⟨w.heap.size + 1, 0, none⟩ = some (.int .i64 ck) ∧ w'.cell? ⟨w.heap.size + 1, 1, none⟩ = some (.int .i64 ca) ∧ w'.cell? ⟨w.heap.size + 1, 2, none⟩ = some (.int .i64 cb)) (go_keep)
      ((first
      | (go_at_call 16; refine (HTC.out _).mono ?_; rintro e wA ⟨rfl, hbA⟩; (first | (replace M := Lib.hid (M.out.kept hbA)) | (replace M := Lib.hid (M.out.kept ((Below.refl _ _).drew.trans hbA))) | (replace M := Lib.hid (M.out.kept ((Below.refl _ _).drew.drew.trans hbA))) | (replace M := Lib.hid (M.out.kept ((below_new _ _).trans (hbA.mono (by simp))))) | (replace M := Lib.hid (M.out.kept ((below_new _ _).drew.trans (hbA.mono (by simp))))) | (replace M := Lib.hid (M.out.kept (((Below.refl _ _).drew.trans (below_new _ _)).trans (hbA.mono (by simp))))) | (replace M := Lib.hid (M.out.kept (((Below.refl _ _).drew.trans (below_new _ _)).drew.trans (hbA.mono (by simp))))) | (replace M := Lib.hid (M.out.kept (((Below.refl _ _).drew.trans (below_new _ _)).drew.drew.trans (hbA.mono (by simp)))))| skip); (first | (replace HX := Lib.hid (HX.out.trans (hbA.mono HX.out.size))) | (replace HX := Lib.hid (HX.out.trans (((Below.refl _ _).drew.trans hbA).mono HX.out.size))) | (replace HX := Lib.hid (HX.out.trans (((Below.refl _ _).drew.drew.trans hbA).mono HX.out.size))) | (replace HX := Lib.hid (HX.out.trans (((below_new _ _).trans (hbA.mono (by simp))).mono HX.out.size))) | (replace HX := Lib.hid (HX.out.trans (((below_new _ _).drew.trans (hbA.mono (by simp))).mono HX.out.size))) | (replace HX := Lib.hid (HX.out.trans ((((Below.refl _ _).drew.trans (below_new _ _)).trans (hbA.mono (by simp))).mono HX.out.size))) | (replace HX := Lib.hid (HX.out.trans ((((Below.refl _ _).drew.trans (below_new _ _)).drew.trans (hbA.mono (by simp))).mono HX.out.size))) | (replace HX := Lib.hid (HX.out.trans ((((Below.refl _ _).drew.trans (below_new _ _)).drew.drew.trans (hbA.mono (by simp))).mono HX.out.size)))); (first | (replace HT3 := Lib.hid (HT3.out.kept hbA)) | (replace HT3 := Lib.hid (HT3.out.kept ((Below.refl _ _).drew.trans hbA))) | (replace HT3 := Lib.hid (HT3.out.kept ((Below.refl _ _).drew.drew.trans hbA))) | (have HT3 := Lib.hid (BzF.kept (BzF.new _ 0 0 (.slice none 0 0) 38 rfl) hbA)) | (have HT3 := Lib.hid (BzF.kept (BzF.new _ 0 0 (.slice none 0 0) 38 rfl) ((Below.refl _ _).drew.trans hbA))) | (have HT3 := Lib.hid (BzF.kept (BzF.new _ 0 0 (.slice none 0 0) 38 rfl) ((Below.refl _ _).drew.drew.trans hbA)))| skip); obtain ⟨⟨b0, b1, b2⟩, b3⟩ := X.out.kept HX.out; have nb3 := Nat.ne_of_gt b3; obtain ⟨⟨e0, e1, e2⟩, e3⟩ := C.out.kept HX.out; have ne3 := Nat.ne_of_gt e3; have hsz := HX.out.size; clear hbA)
      | (go_at_call 44; refine (HI.out _ _ (by first | exact M.out | exact M.out.kept (Below.refl _ _).drew | exact M.out.kept (Below.refl _ _).drew.drew | exact M.out.kept (below_new _ _) | exact M.out.kept (below_new _ _).drew | exact M.out.kept ((Below.refl _ _).drew.trans (below_new _ _)) | exact M.out.kept ((Below.refl _ _).drew.trans (below_new _ _)).drew)).mono ?_; rintro e wR ⟨u3, rfl, m3, hbA⟩; (first | (have hbb := HT3.out.1.2) | skip); (first | (replace HX := Lib.hid (HX.out.trans (hbA.mono HX.out.size))) | (replace HX := Lib.hid (HX.out.trans (((Below.refl _ _).drew.trans hbA).mono HX.out.size))) | (replace HX := Lib.hid (HX.out.trans (((Below.refl _ _).drew.drew.trans hbA).mono HX.out.size))) | (replace HX := Lib.hid (HX.out.trans (((below_new _ _).trans (hbA.mono (by simp))).mono HX.out.size))) | (replace HX := Lib.hid (HX.out.trans (((below_new _ _).drew.trans (hbA.mono (by simp))).mono HX.out.size))) | (replace HX := Lib.hid (HX.out.trans ((((Below.refl _ _).drew.trans (below_new _ _)).trans (hbA.mono (by simp))).mono HX.out.size))) | (replace HX := Lib.hid (HX.out.trans ((((Below.refl _ _).drew.trans (below_new _ _)).drew.trans (hbA.mono (by simp))).mono HX.out.size))) | (replace HX := Lib.hid (HX.out.trans ((((Below.refl _ _).drew.trans (below_new _ _)).drew.drew.trans (hbA.mono (by simp))).mono HX.out.size)))); (first | (replace HT3 := Lib.hid (HT3.out.kept hbA)) | (replace HT3 := Lib.hid (HT3.out.kept ((Below.refl _ _).drew.trans hbA))) | (replace HT3 := Lib.hid (HT3.out.kept ((Below.refl _ _).drew.drew.trans hbA))) | (have HT3 := Lib.hid (BzF.kept (BzF.new _ 0 0 (.slice none 0 0) 38 rfl) hbA)) | (have HT3 := Lib.hid (BzF.kept (BzF.new _ 0 0 (.slice none 0 0) 38 rfl) ((Below.refl _ _).drew.trans hbA))) | (have HT3 := Lib.hid (BzF.kept (BzF.new _ 0 0 (.slice none 0 0) 38 rfl) ((Below.refl _ _).drew.drew.trans hbA)))| skip); obtain ⟨⟨b0, b1, b2⟩, b3⟩ := X.out.kept HX.out; have nb3 := Nat.ne_of_gt b3; obtain ⟨⟨e0, e1, e2⟩, e3⟩ := C.out.kept HX.out; have ne3 := Nat.ne_of_gt e3; have hsz := HX.out.size; have HM3 := Lib.hid m3; obtain ⟨hh3, a3, c3, rfl, _⟩ := m3; clear hbA hh3; first | (obtain ⟨x0, x1, x2, x3, x4, x5⟩ := HT3.out.cells) | skip)))
    all_goals
      go_wp2_with fail
      go_meet
      case rel =>
        first
        | exact box_end ok HM3.out HX.out (by first | exact Nat.le_refl _ | omega | (simp; omega))
        | exact box_out ok HT3.out HM3.out HX.out (by first | exact Nat.le_refl _ | omega | (simp; omega)) (by first | exact Nat.le_refl _ | omega | (simp; omega)) (by first | exact Nat.le_refl _ | omega | (simp; omega) | simp)
  case rest =>
  clear HX
  clear b0 b1 b2 nb0 b3
  clear e0 e1 e2 ne0 e3
  obtain ⟨b9, lo9, hi9, a7, c7, rfl, rfl, X7, M7, HX7⟩ := hcut
  obtain ⟨w6, rfl⟩ : ∃ W, W = wc := ⟨_, rfl⟩
  clear M
  have hd9 := M7.out.2.2
  have hl9 := M7.out.2.1
  have hb9 := X7.out.2
  have M1 := Lib.hid M7.out.1
  have B1 := Lib.hid X7.out.1
  replace B := Lib.hid (B.out.kept HX7.out)
  replace C := Lib.hid (C.out.kept HX7.out)
  replace B0 := Lib.hid (B0.out.kept HX7.out)
  replace X := Lib.hid (X.out.kept HX7.out)
  replace M0 := Lib.hid (M0.out.kept HX7.out)
  replace MX := Lib.hid (MX.out.kept HX7.out)
  replace HB := Lib.hid (HB.out.trans (HX7.out.mono HB.out.size))
  clear HX7 X7 M7
  obtain ⟨⟨B0p0, B0pa, B0pb⟩, B0p2⟩ := B0.out
  obtain ⟨⟨B1p0, B1pa, B1pb⟩, B1p2⟩ := B1.out
  go_wp2_with fail
  refine (eqPuzzle_any tx ty xs _ _ _ HLX.out M1.out.isIn M0.out.isIn).mono ?_
  rintro e w7 ⟨rfl, hb7⟩
  clear B0p0 B0pa B0pb B0p2
  clear B1p0 B1pa B1pb B1p2
  replace B := Lib.hid (B.out.kept hb7)
  replace C := Lib.hid (C.out.kept hb7)
  replace B0 := Lib.hid (B0.out.kept hb7)
  replace X := Lib.hid (X.out.kept hb7)
  replace B1 := Lib.hid (B1.out.kept hb7)
  replace M0 := Lib.hid (M0.out.kept hb7)
  replace MX := Lib.hid (MX.out.kept hb7)
  replace M1 := Lib.hid (M1.out.kept hb7)
  replace HB := Lib.hid (HB.out.trans (hb7.mono HB.out.size))
  clear hb7
  obtain ⟨⟨Bp0, Bpa, Bpb⟩, Bp2⟩ := B.out
  obtain ⟨⟨Xp0, Xpa, Xpb⟩, Xp2⟩ := X.out
  go_upto_region 10 with fail
  go_cut [51] from 47 to 51 (fun s45 wx => s45 = .bool false ∧ Hid (Below w7.heap.size w7 wx))
  case first =>
    go_region_with (first
      | (go_at_call 20; refine (HTO.out _ (by first | exact HB.out | exact HB.out.drew | exact HB.out.drew.drew)).mono ?_; rintro e v7 ⟨u2, rfl, m2, hb7⟩; have M7 := Lib.hid m2.isIn; clear m2; have HB7 : Hid (Below w7.heap.size w7 v7) := Lib.hid (by first | exact hb7 | exact (Below.refl _ _).drew.trans hb7 | exact (Below.refl _ _).drew.drew.trans hb7); clear hb7; have qq0 := (HB7.out.cell (p := ⟨w4.heap.size, 0, none⟩) Xp2).trans Xp0; have qq1 := (HB7.out.cell (p := ⟨w4.heap.size, 1, none⟩) Xp2).trans Xpa; have qq2 := (HB7.out.cell (p := ⟨w4.heap.size, 2, none⟩) Xp2).trans Xpb)
      | (go_at_call 22; refine (HQ.out _ _ _ (MX.out.isIn.kept (by first | exact HB7.out | exact HB7.out.drew | exact HB7.out.drew.drew)) (by first | exact M7.out | exact M7.out.kept (Below.refl _ _).drew | exact M7.out.kept (Below.refl _ _).drew.drew)).mono ?_; rintro e w8 ⟨rfl, hb8⟩; have HB8 : Hid (Below w7.heap.size w7 w8) := Lib.hid (HB7.out.trans (by first | exact hb8.mono HB7.out.size | exact ((Below.refl _ _).drew.trans hb8).mono HB7.out.size | exact ((Below.refl _ _).drew.drew.trans hb8).mono HB7.out.size)); clear hb8))
    all_goals
      go_wp2_with fail
      go_meet
      case rel => exact ⟨rfl, Lib.hid (by first | exact HB8.out | exact HB8.out.drew | exact HB8.out.drew.drew)⟩
  case rest =>
  obtain ⟨rfl, HBC⟩ := hcut
  have hb7 := HBC.out
  clear HBC
  clear Bp0 Bpa Bpb Bp2
  clear Xp0 Xpa Xpb Xp2
  replace B := Lib.hid (B.out.kept hb7)
  replace C := Lib.hid (C.out.kept hb7)
  replace B0 := Lib.hid (B0.out.kept hb7)
  replace X := Lib.hid (X.out.kept hb7)
  replace B1 := Lib.hid (B1.out.kept hb7)
  replace M0 := Lib.hid (M0.out.kept hb7)
  replace MX := Lib.hid (MX.out.kept hb7)
  replace M1 := Lib.hid (M1.out.kept hb7)
  replace HB := Lib.hid (HB.out.trans (hb7.mono HB.out.size))
  clear hb7
  obtain ⟨⟨Xp0, Xpa, Xpb⟩, Xp2⟩ := X.out
  go_wp2_with fail
  refine (HMX.out _ _ _ _ MX.out).mono ?_
  rintro e w8 ⟨rfl, ht, mk⟩
  replace B := Lib.hid (B.out.touch ht (.inl (by omega)))
  replace C := Lib.hid (C.out.touch ht (.inl (by omega)))
  replace B0 := Lib.hid (B0.out.touch ht (.inl (by omega)))
  replace X := Lib.hid (X.out.touch ht (.inr (Nat.le_refl _)))
  replace B1 := Lib.hid (B1.out.touch ht (.inr (by omega)))
  replace M0 := Lib.hid (M0.out.touch ht (.inl (by omega)))
  replace M1 := Lib.hid (M1.out.touch ht (.inr (by omega)))
  replace HB := Lib.hid (HB.out.trans (ht.below (by omega) HB.out.size))
  clear ht mk HMX MX
  clear Xp0 Xpa Xpb Xp2
  obtain ⟨⟨B0p0, B0pa, B0pb⟩, B0p2⟩ := B0.out
  obtain ⟨⟨B1p0, B1pa, B1pb⟩, B1p2⟩ := B1.out
  have hdk : decide (1 + 3 * (n1 : Int) < 0) = false := by simp; omega
  go_wp2_with fail
  refine (eqPuzzle_any tx ty xs _ _ _ HLX.out M1.out.isIn M0.out.isIn).mono ?_
  rintro e w9 ⟨rfl, hb9'⟩
  clear B0p0 B0pa B0pb B0p2
  clear B1p0 B1pa B1pb B1p2
  replace B := Lib.hid (B.out.kept hb9')
  replace C := Lib.hid (C.out.kept hb9')
  replace B0 := Lib.hid (B0.out.kept hb9')
  replace B1 := Lib.hid (B1.out.kept hb9')
  replace M0 := Lib.hid (M0.out.kept hb9')
  replace M1 := Lib.hid (M1.out.kept hb9')
  replace HB := Lib.hid (HB.out.trans (hb9'.mono HB.out.size))
  clear hb9'
  obtain ⟨⟨B1p0, B1pa, B1pb⟩, B1p2⟩ := B1.out
  go_wp2_with fail
  refine (markPuzzle_any tx ty xs _ _ _ _ HLX.out M1.out).mono ?_
  rintro e w10 ⟨rfl, ht, mk⟩
  replace B := Lib.hid (B.out.touch ht (.inl (by omega)))
  replace C := Lib.hid (C.out.touch ht (.inl (by omega)))
  replace B0 := Lib.hid (B0.out.touch ht (.inl (by omega)))
  replace B1 := Lib.hid (B1.out.touch ht (hd9))
  replace M0 := Lib.hid (M0.out.touch ht (.inl (by omega)))
  replace M1 := Lib.hid mk
  replace HB := Lib.hid (HB.out.trans (ht.below (by omega) HB.out.size))
  clear ht mk hdk
  clear B1p0 B1pa B1pb B1p2
  obtain ⟨⟨B1p0, B1pa, B1pb⟩, B1p2⟩ := B1.out
  have hl1 : (xs.length : Int) ≤ 1048576 := by have := HLX.out; omega
  have hd : decide (1 + 3 * (xs.length : Int) < 0) = false := by simp; omega
  go_wp2_with fail
  refine (heldPuzzle_any xs.length tx ty _ _ _ _ HLX.out M1.out).mono ?_
  rintro e w11 ⟨rfl, hb11⟩
  clear B1p0 B1pa B1pb B1p2
  replace B := Lib.hid (B.out.kept hb11)
  replace C := Lib.hid (C.out.kept hb11)
  replace B0 := Lib.hid (B0.out.kept hb11)
  replace B1 := Lib.hid (B1.out.kept hb11)
  replace M0 := Lib.hid (M0.out.kept hb11)
  replace M1 := Lib.hid (M1.out.kept hb11)
  replace HB := Lib.hid (HB.out.trans (hb11.mono HB.out.size))
  clear hb11
  obtain ⟨⟨b0, b1, b2⟩, b3⟩ := B.out
  have nb0 := Nat.ne_of_gt b3
  obtain ⟨⟨e0, e1, e2⟩, e3⟩ := C.out
  have ne0 := Nat.ne_of_gt e3
  have HX : Hid (Below w11.heap.size w11 w11) := Lib.hid (Below.refl _ _)
  go_upto_region 24 with fail
  go_cut [14, 15] from 79 to 86 (fun s6 s7 wx => ∃ b6, BoxOf w11 wx b6 tx ty xs s6 s7 ok)
  case first =>
    go_region_held3 (fun w' => (w'.cell? ⟨w.heap.size, 0, none⟩ = some (.int .i64 t) ∧ w'.cell? ⟨w.heap.size, 1, none⟩ = some (.int .i64 p) ∧ w'.cell? ⟨w.heap.size, 2, none⟩ = some (.slice a1 n1 c1)) ∧ w'.cell? ⟨w.heap.size + 1, 0, none⟩ = some (.int .i64 ck) ∧ w'.cell? ⟨w.heap.size + 1, 1, none⟩ = some (.int .i64 ca) ∧ w'.cell? ⟨w.heap.size + 1, 2, none⟩ = some (.int .i64 cb)) (go_keep)
      ((first
      | (go_at_call 20; refine (HTO.out _ (HB.out.trans (Below.mono (by first | exact HX.out | exact HX.out.drew | exact HX.out.drew.drew | exact HX.out.alloc HX.out.size _ | exact (HX.out.alloc HX.out.size _).drew | exact HX.out.drew.alloc HX.out.drew.size _ | exact (HX.out.drew.alloc HX.out.drew.size _).drew) HB.out.size))).mono ?_; rintro e wA ⟨u0, rfl, m0, hbA⟩; have M := Lib.hid m0.isIn; clear m0; (first | (replace HX := Lib.hid (HX.out.trans (hbA.mono HX.out.size))) | (replace HX := Lib.hid (HX.out.trans (((Below.refl _ _).drew.trans hbA).mono HX.out.size))) | (replace HX := Lib.hid (HX.out.trans (((Below.refl _ _).drew.drew.trans hbA).mono HX.out.size))) | (replace HX := Lib.hid (HX.out.trans (((below_new _ _).trans (hbA.mono (by simp))).mono HX.out.size))) | (replace HX := Lib.hid (HX.out.trans (((below_new _ _).drew.trans (hbA.mono (by simp))).mono HX.out.size))) | (replace HX := Lib.hid (HX.out.trans ((((Below.refl _ _).drew.trans (below_new _ _)).trans (hbA.mono (by simp))).mono HX.out.size))) | (replace HX := Lib.hid (HX.out.trans ((((Below.refl _ _).drew.trans (below_new _ _)).drew.trans (hbA.mono (by simp))).mono HX.out.size))) | (replace HX := Lib.hid (HX.out.trans ((((Below.refl _ _).drew.trans (below_new _ _)).drew.drew.trans (hbA.mono (by simp))).mono HX.out.size)))); (first | (replace HT3 := Lib.hid (HT3.out.kept hbA)) | (replace HT3 := Lib.hid (HT3.out.kept ((Below.refl _ _).drew.trans hbA))) | (replace HT3 := Lib.hid (HT3.out.kept ((Below.refl _ _).drew.drew.trans hbA))) | (have HT3 := Lib.hid (BzF.kept (BzF.new _ 0 0 (.slice none 0 0) 38 rfl) hbA)) | (have HT3 := Lib.hid (BzF.kept (BzF.new _ 0 0 (.slice none 0 0) 38 rfl) ((Below.refl _ _).drew.trans hbA))) | (have HT3 := Lib.hid (BzF.kept (BzF.new _ 0 0 (.slice none 0 0) 38 rfl) ((Below.refl _ _).drew.drew.trans hbA)))| skip); obtain ⟨⟨b0, b1, b2⟩, b3⟩ := B.out.kept HX.out; have nb3 := Nat.ne_of_gt b3; obtain ⟨⟨e0, e1, e2⟩, e3⟩ := C.out.kept HX.out; have ne3 := Nat.ne_of_gt e3; have hsz := HX.out.size; clear hbA)
      | (go_at_call 16; refine (HTC.out _).mono ?_; rintro e wA ⟨rfl, hbA⟩; (first | (replace M := Lib.hid (M.out.kept hbA)) | (replace M := Lib.hid (M.out.kept ((Below.refl _ _).drew.trans hbA))) | (replace M := Lib.hid (M.out.kept ((Below.refl _ _).drew.drew.trans hbA))) | (replace M := Lib.hid (M.out.kept ((below_new _ _).trans (hbA.mono (by simp))))) | (replace M := Lib.hid (M.out.kept ((below_new _ _).drew.trans (hbA.mono (by simp))))) | (replace M := Lib.hid (M.out.kept (((Below.refl _ _).drew.trans (below_new _ _)).trans (hbA.mono (by simp))))) | (replace M := Lib.hid (M.out.kept (((Below.refl _ _).drew.trans (below_new _ _)).drew.trans (hbA.mono (by simp))))) | (replace M := Lib.hid (M.out.kept (((Below.refl _ _).drew.trans (below_new _ _)).drew.drew.trans (hbA.mono (by simp)))))| skip); (first | (replace HX := Lib.hid (HX.out.trans (hbA.mono HX.out.size))) | (replace HX := Lib.hid (HX.out.trans (((Below.refl _ _).drew.trans hbA).mono HX.out.size))) | (replace HX := Lib.hid (HX.out.trans (((Below.refl _ _).drew.drew.trans hbA).mono HX.out.size))) | (replace HX := Lib.hid (HX.out.trans (((below_new _ _).trans (hbA.mono (by simp))).mono HX.out.size))) | (replace HX := Lib.hid (HX.out.trans (((below_new _ _).drew.trans (hbA.mono (by simp))).mono HX.out.size))) | (replace HX := Lib.hid (HX.out.trans ((((Below.refl _ _).drew.trans (below_new _ _)).trans (hbA.mono (by simp))).mono HX.out.size))) | (replace HX := Lib.hid (HX.out.trans ((((Below.refl _ _).drew.trans (below_new _ _)).drew.trans (hbA.mono (by simp))).mono HX.out.size))) | (replace HX := Lib.hid (HX.out.trans ((((Below.refl _ _).drew.trans (below_new _ _)).drew.drew.trans (hbA.mono (by simp))).mono HX.out.size)))); (first | (replace HT3 := Lib.hid (HT3.out.kept hbA)) | (replace HT3 := Lib.hid (HT3.out.kept ((Below.refl _ _).drew.trans hbA))) | (replace HT3 := Lib.hid (HT3.out.kept ((Below.refl _ _).drew.drew.trans hbA))) | (have HT3 := Lib.hid (BzF.kept (BzF.new _ 0 0 (.slice none 0 0) 38 rfl) hbA)) | (have HT3 := Lib.hid (BzF.kept (BzF.new _ 0 0 (.slice none 0 0) 38 rfl) ((Below.refl _ _).drew.trans hbA))) | (have HT3 := Lib.hid (BzF.kept (BzF.new _ 0 0 (.slice none 0 0) 38 rfl) ((Below.refl _ _).drew.drew.trans hbA)))| skip); obtain ⟨⟨b0, b1, b2⟩, b3⟩ := B.out.kept HX.out; have nb3 := Nat.ne_of_gt b3; obtain ⟨⟨e0, e1, e2⟩, e3⟩ := C.out.kept HX.out; have ne3 := Nat.ne_of_gt e3; have hsz := HX.out.size; clear hbA)
      | (go_at_call 44; refine (HI.out _ _ (by first | exact M.out | exact M.out.kept (Below.refl _ _).drew | exact M.out.kept (Below.refl _ _).drew.drew | exact M.out.kept (below_new _ _) | exact M.out.kept (below_new _ _).drew | exact M.out.kept ((Below.refl _ _).drew.trans (below_new _ _)) | exact M.out.kept ((Below.refl _ _).drew.trans (below_new _ _)).drew)).mono ?_; rintro e wR ⟨u3, rfl, m3, hbA⟩; (first | (have hbb := HT3.out.1.2) | skip); (first | (replace HX := Lib.hid (HX.out.trans (hbA.mono HX.out.size))) | (replace HX := Lib.hid (HX.out.trans (((Below.refl _ _).drew.trans hbA).mono HX.out.size))) | (replace HX := Lib.hid (HX.out.trans (((Below.refl _ _).drew.drew.trans hbA).mono HX.out.size))) | (replace HX := Lib.hid (HX.out.trans (((below_new _ _).trans (hbA.mono (by simp))).mono HX.out.size))) | (replace HX := Lib.hid (HX.out.trans (((below_new _ _).drew.trans (hbA.mono (by simp))).mono HX.out.size))) | (replace HX := Lib.hid (HX.out.trans ((((Below.refl _ _).drew.trans (below_new _ _)).trans (hbA.mono (by simp))).mono HX.out.size))) | (replace HX := Lib.hid (HX.out.trans ((((Below.refl _ _).drew.trans (below_new _ _)).drew.trans (hbA.mono (by simp))).mono HX.out.size))) | (replace HX := Lib.hid (HX.out.trans ((((Below.refl _ _).drew.trans (below_new _ _)).drew.drew.trans (hbA.mono (by simp))).mono HX.out.size)))); (first | (replace HT3 := Lib.hid (HT3.out.kept hbA)) | (replace HT3 := Lib.hid (HT3.out.kept ((Below.refl _ _).drew.trans hbA))) | (replace HT3 := Lib.hid (HT3.out.kept ((Below.refl _ _).drew.drew.trans hbA))) | (have HT3 := Lib.hid (BzF.kept (BzF.new _ 0 0 (.slice none 0 0) 38 rfl) hbA)) | (have HT3 := Lib.hid (BzF.kept (BzF.new _ 0 0 (.slice none 0 0) 38 rfl) ((Below.refl _ _).drew.trans hbA))) | (have HT3 := Lib.hid (BzF.kept (BzF.new _ 0 0 (.slice none 0 0) 38 rfl) ((Below.refl _ _).drew.drew.trans hbA)))| skip); obtain ⟨⟨b0, b1, b2⟩, b3⟩ := B.out.kept HX.out; have nb3 := Nat.ne_of_gt b3; obtain ⟨⟨e0, e1, e2⟩, e3⟩ := C.out.kept HX.out; have ne3 := Nat.ne_of_gt e3; have hsz := HX.out.size; have HM3 := Lib.hid m3; obtain ⟨hh3, a3, c3, rfl, _⟩ := m3; clear hbA hh3; first | (obtain ⟨x0, x1, x2, x3, x4, x5⟩ := HT3.out.cells) | skip)))
    all_goals
      go_wp2_with fail
      go_meet
      case rel =>
        first
        | exact box_end ok HM3.out HX.out (by first | exact Nat.le_refl _ | omega | (simp; omega))
        | exact box_out ok HT3.out HM3.out HX.out (by first | exact Nat.le_refl _ | omega | (simp; omega)) (by first | exact Nat.le_refl _ | omega | (simp; omega)) (by first | exact Nat.le_refl _ | omega | (simp; omega) | simp)
  case rest =>
  clear HX
  clear b0 b1 b2 nb0 b3
  clear e0 e1 e2 ne0 e3
  obtain ⟨b14, lo14, hi14, a9, c9, rfl, rfl, X9, M9, HX9⟩ := hcut
  obtain ⟨w13, rfl⟩ : ∃ W, W = wc := ⟨_, rfl⟩
  have M2 := Lib.hid M9.out.1
  have B2 := Lib.hid X9.out.1
  replace B0 := Lib.hid (B0.out.kept HX9.out)
  replace B1 := Lib.hid (B1.out.kept HX9.out)
  replace M0 := Lib.hid (M0.out.kept HX9.out)
  replace M1 := Lib.hid (M1.out.kept HX9.out)
  replace HB := Lib.hid (HB.out.trans (HX9.out.mono HB.out.size))
  clear HX9 X9 M9
  obtain ⟨⟨B0p0, B0pa, B0pb⟩, B0p2⟩ := B0.out
  obtain ⟨⟨B2p0, B2pa, B2pb⟩, B2p2⟩ := B2.out
  go_wp2_with fail
  refine (eqPuzzle_any tx ty xs _ _ _ HLX.out M2.out.isIn M0.out.isIn).mono ?_
  rintro e w14 ⟨rfl, hb14⟩
  clear B0p0 B0pa B0pb B0p2
  clear B2p0 B2pa B2pb B2p2
  replace B1 := Lib.hid (B1.out.kept hb14)
  replace M1 := Lib.hid (M1.out.kept hb14)
  replace HB := Lib.hid (HB.out.trans (hb14.mono HB.out.size))
  clear hb14
  obtain ⟨⟨B1p0, B1pa, B1pb⟩, B1p2⟩ := B1.out
  go_wp2_with fail
  refine (heldPuzzle_any xs.length tx ty _ _ _ _ HLX.out M1.out).mono ?_
  rintro e w15 ⟨rfl, hb15⟩
  replace HB := Lib.hid (HB.out.trans (hb15.mono HB.out.size))
  clear hb15
  go_wp2_with fail
  go_ret
  exact ⟨rfl, HB.out⟩
end Go.Proofs.Ytheailbbnmblnaa
