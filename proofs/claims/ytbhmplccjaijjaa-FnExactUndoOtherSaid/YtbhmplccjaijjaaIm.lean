/-
  IMAGES: 'omImage', 'ImagesOf' of the model, 'images', 'ImagesOf' of the program.
-/
import Derived.Test.YtbhmplccjaijjaaOmJ
import Derived.Test.YtbhmplccjaijjaaOs
import Derived.Test.YtbhmplccjaijjaaNxO
import Derived.Test.YtbhmplccjaijjaaOtI
import Derived.Test.YtbhmplccjaijjaaPairsM
import Derived.Deep.CutRange
namespace Go.Proofs.Ytbhmplccjaijjaa
open Go.RowKit
set_option linter.unusedVariables false

theorem wrap_idO {x : Int} (h1 : -4611686018427387904 ≤ x) (h2 : x ≤ 4611686018427387904) : IntKind.i64.wrap x = x := IntWalk.i64_in _ (by omega)
def OKN (P : Int → Prop) (n : Int) : Prop := P n
/-- A pair handed back. -/
def RetPair2 (r : Int × Int) (w : World) (e : Ending) (w' : World) : Prop :=
  ∃ b, e = .returned (slP b) ∧ w.heap.size ≤ b ∧ b < w'.heap.size ∧ PairAt w' b r ∧ Below w.heap.size w w'

set_option maxRecDepth 100000 in
set_option maxHeartbeats 4000000 in
theorem omImage_any (ps : List Pt) (r : Nat) (v : Value) (w : World) (hg : omB ps = true) (hr : r < ps.length) (h : OthIn w v ps) :
    Calls Try.prog 72 #[v, .int .i64 r] w (RetPair2 (imAt ps r) w) := by
  obtain ⟨a, c, rfl, hx⟩ := h.rd
  have hl8 := omB_len hg
  have hok := omB_at hg hr
  have hin := ptIn_iff.1 (ptOk_iff.1 hok).1
  obtain ⟨g, rfl, hgl, q⟩ := hx r hr
  have HIM : Hid (imAt ps r = (pbh (ps.getD r pt0) r % imMod (ps.getD r pt0) ps.length, imMod (ps.getD r pt0) ps.length)) := Lib.hid rfl
  have HM1 := Lib.hid (imMod_pos hok hl8.1)
  have HM2 := Lib.hid (imMod_le hok hl8.2)
  have HTD := Lib.hid (tdiv_exact (ptOk_iff.1 hok).2.1)
  obtain ⟨K, hK⟩ : ∃ K, ps.length = K := ⟨_, rfl⟩
  rw [hK] at hl8 hr HIM HM1 HM2 hok ⊢
  obtain ⟨pt, hpt⟩ : ∃ pt, ps.getD r pt0 = pt := ⟨_, rfl⟩
  rw [hpt] at q hin HIM HM1 HM2 HTD
  obtain ⟨t, p, o⟩ := pt
  obtain ⟨k0, k1, k2⟩ := q
  dsimp only at k0 k1 k2 hin HTD
  obtain ⟨i1, i2, i3, i4, i5, i6⟩ := hin
  obtain ⟨m1, m2⟩ := (show 0 ≤ t * (r : Int) ∧ t * (r : Int) ≤ 320 from ⟨Int.mul_nonneg (by omega) (by omega), Int.le_trans (Int.mul_le_mul i2 (show (r : Int) ≤ 16 by omega) (by omega) (by omega)) (by omega)⟩)
  obtain ⟨m3, m4⟩ := (show 0 ≤ t * (K : Int) ∧ t * (K : Int) ≤ 320 from ⟨Int.mul_nonneg (by omega) (by omega), Int.le_trans (Int.mul_le_mul i2 (show (K : Int) ≤ 16 by omega) (by omega) (by omega)) (by omega)⟩)
  have hMd : imMod (t, p, o) K = t * (K : Int) / o := rfl
  have hPd : pbh (t, p, o) (r : Int) = (t * (r : Int) + p) / o := rfl
  rw [hMd] at HIM HM1 HM2
  rw [hPd] at HIM
  obtain ⟨x, hx2⟩ : ∃ x, t * (r : Int) = x := ⟨_, rfl⟩
  obtain ⟨y, hy2⟩ : ∃ y, t * (K : Int) = y := ⟨_, rfl⟩
  rw [hx2] at m1 m2 HTD HIM
  rw [hy2] at m3 m4 HM1 HM2 HIM
  rw [← HTD.out] at HIM
  have hs := tdiv_sizeJ (a := x + p) (g := o) (B := 340) (by omega) (by omega)
  obtain ⟨hs1, hs2⟩ := hs
  have HMD := Lib.hid (fun X w (h1 : 1 ≤ y / o) (h2 : y / o ≤ 160) => l1Mod_r X (y / o) w h1 (by omega))
  have hd1 := HM1.out
  have hd2 := HM2.out
  have ho : (o == 0) = false := by simp; omega
  have hr2 : (r : Int) < (K : Int) := by omega
  have hr0 : (0 : Int) ≤ (r : Int) := by omega
  have hne : ¬ (g = w.heap.size) := by omega
  have hne2 : ¬ (w.heap.size = g) := by omega
  obtain ⟨hl1, hl2⟩ := hl8
  have HBX := Lib.hid (fun X Y => (((Below.refl w.heap.size w).alloc (Nat.le_refl _) X).alloc (by simp) Y))
  clear hx h hpt hg hok hMd hPd HTD
  go_enter Try.func72, Try.ntmps72
  go_wp2_with fail
  refine (HMD.out _ _ hd1 hd2).mono ?_
  rintro e w4 ⟨rfl, rfl⟩
  go_wp2_with fail
  go_ret
  rw [HIM.out]
  have hpn := pair_new ((w.alloc (.cells #[.slice (some ⟨g, 0, none⟩) K c] 29)).alloc (.cells #[.int .i64 t, .int .i64 p, .int .i64 o] 65)) ((x + p).tdiv o % (y / o)) (y / o) 3
  have e : ((w.alloc (.cells #[.slice (some ⟨g, 0, none⟩) K c] 29)).alloc (.cells #[.int .i64 t, .int .i64 p, .int .i64 o] 65)).heap.size = w.heap.size + 1 + 1 := by simp
  rw [e] at hpn
  exact ⟨w.heap.size + 1 + 1, rfl, by omega, by simp, hpn, (HBX.out _ _).alloc (by simp; omega) _⟩

/-- The images of the first j residues. -/
def imT (ps : List Pt) (j : Nat) : List (Int × Int) := (imL ps).take j
theorem imT_zero (ps : List Pt) : imT ps 0 = [] := rfl
theorem imT_succ {ps : List Pt} {j : Nat} (h : j < ps.length) : imT ps (j + 1) = imT ps j ++ [imAt ps j] := by
  unfold imT
  rw [take_snoc (by rw [imL_length]; exact h), imL_at h]
theorem imT_len {ps : List Pt} {j : Nat} (h : j ≤ ps.length) : (imT ps j).length = j := by
  unfold imT
  rw [List.length_take, imL_length]; omega
theorem imT_all (ps : List Pt) : imT ps ps.length = imL ps := by
  unfold imT
  rw [List.take_of_length_le (by rw [imL_length]; exact Nat.le_refl _)]
/-- What is handed back. -/
def imR (ps : List Pt) : List (Int × Int) := if omB ps = true then imL ps else []
theorem imR_len (ps : List Pt) : (imR ps).length ≤ 300 := by
  unfold imR
  split
  · rename_i h
    have := omB_len h
    rw [imL_length]; omega
  · simp
def RetPairs (rs : List (Int × Int)) (ok : Bool) (w : World) (e : Ending) (w' : World) : Prop :=
  ∃ v, e = .returned (.tuple #[v, .bool ok]) ∧ PairsAt w' w.heap.size v rs ∧ Below w.heap.size w w'

set_option maxRecDepth 100000 in
set_option maxHeartbeats 4000000 in
theorem sImagesOf (ps : List Pt) (v : Value) (w : World) (hl : ps.length ≤ 1048576) (h : OthIn w v ps) :
    Calls Try.prog 32 #[v] w (RetPairs (imR ps) (omB ps) w) := by
  obtain ⟨u, rfl, hpi⟩ := h
  have HOI := Lib.hid (fun W (hb : Below w.heap.size w W) => (show OthIn w (.agg #[u]) ps from ⟨u, rfl, hpi⟩).kept hb)
  have HG := Lib.hid (fun X => omGood_any ps (.agg #[u]) (w.alloc X) hl (HOI.out _ (below_new w X)))
  have HB := Lib.hid (fun X => below_new w X)
  have HBo := Lib.hid (fun T => Bo.new w u T)
  by_cases hg : omB ps = true
  case neg =>
    have hg' : omB ps = false := by simpa using hg
    have HL : Hid (imR ps = []) := Lib.hid (by rw [imR, hg']; rfl)
    rw [hg'] at HG
    rw [hg', HL.out]
    clear hg hg' hpi hl
    go_enter Try.func32, Try.ntmps32
    go_wp2_with fail
    refine (HG.out _).mono ?_
    rintro e w1 ⟨rfl, hb1⟩
    have HB1 := Lib.hid ((HB.out _).trans (hb1.mono (HB.out _).size))
    clear hb1
    go_wp2_with fail
    go_ret2
    exact ⟨_, rfl, pairsAt_nil _ _, HB1.out⟩
  case pos =>
    have HL : Hid (imR ps = imL ps) := Lib.hid (by rw [imR, if_pos hg])
    have HX := Lib.hid (fun r W hr hm => omImage_any ps r (.agg #[u]) W hg hr hm)
    have HT := Lib.hid (fun j (h : j < ps.length) => imT_succ h)
    have HTL := Lib.hid (fun j (h : j ≤ ps.length) => imT_len h)
    have HTA := Lib.hid (imT_all ps)
    obtain ⟨hl1, hl2⟩ := omB_len hg
    rw [hg] at HG
    rw [hg, HL.out]
    obtain ⟨a, c, rfl, _⟩ := hpi
    obtain ⟨K, hK⟩ : ∃ K, ps.length = K := ⟨_, rfl⟩
    rw [hK] at hl1 hl2 HX HT HTL HTA HBo HOI HG
    have HZ : Hid (∀ W B, PairsAt W B (.slice none 0 0) (imT ps 0)) := Lib.hid (fun W B => pairsAt_nil W B)
    rw [hK]
    clear hg hl hK
    obtain ⟨i0, hi, hi0, hi1, hi2⟩ := info_parts info36
    go_enter Try.func32, Try.ntmps32
    go_wp2_with fail
    refine (HG.out _).mono ?_
    rintro e w1 ⟨rfl, hb1⟩
    have hbo := (HBo.out 29).kept hb1
    have HBO1 := Lib.hid hbo
    have HB1 := Lib.hid ((HB.out (.cells #[.slice a K c] 29)).trans (hb1.mono (HB.out _).size))
    obtain ⟨p0, p1⟩ := hbo
    clear hb1
    go_wp2_with fail
    go_loopw [4, 5, 12] (fun v _ i wr => ∃ j : Nat, j ≤ K ∧ i = .int .i64 j ∧ PairsAt wr (w.heap.size + 1) v (imT ps j) ∧ Bo wr w.heap.size (.slice a K c) ∧ Below w.heap.size w wr) (fun _ _ i _ => K - (RowKit.intOf i).toNat)
    case atStart => exact ⟨0, Nat.zero_le _, rfl, HZ.out _ _, HBO1.out, HB1.out⟩
    case round =>
      clear HZ HBO1 HB1 p0 p1
      obtain ⟨j, hj, rfl, hpa, hbo, hbel⟩ := hrel
      have HBR := Lib.hid hbel
      have HBO := Lib.hid hbo
      obtain ⟨p0, p1⟩ := hbo
      have HPA := Lib.hid hpa
      clear hpa
      by_cases hlt : j < K
      · have HXJ := Lib.hid (HX.out j wr hlt (HOI.out _ HBR.out))
        have hlt2 : (j : Int) < (K : Int) := by omega
        have hj0 : (0 : Int) ≤ (j : Int) := by omega
        have HTS := Lib.hid (HT.out j hlt)
        have HTJ := Lib.hid (HTL.out j hj)
        clear hbel
        go_wp2_with fail
        refine HXJ.out.mono ?_
        rintro e w2 ⟨b, rfl, hb0, hb1, hpn, hb2⟩
        dsimp only [slP]
        have HBO2 := Lib.hid (HBO.out.kept hb2)
        have HBR2 := Lib.hid (HBR.out.trans (hb2.mono HBR.out.size))
        have HPN := Lib.hid hpn
        obtain ⟨bs, h1, h2, h3, h4⟩ := HPA.out
        rw [HTJ.out] at h1 h2
        have H1 := Lib.hid h1
        have H1k := Lib.hid (ownsRow_kept h1 hb2)
        have H234 := Lib.hid (And.intro h2 (And.intro h3 h4))
        have hj3 : j + 1 ≤ maxLen := by unfold maxLen; omega
        have hz2 := hb2.size
        have HB2 := Lib.hid hb2
        clear h1 h2 h3 h4 hpn hb2 p0
        go_wp2_with (at_builtin; refine wpList_append_own _ rfl _ _ 45 rfl (w.heap.size + 1) 38 i0 (.slice none 0 0) 1 24 Try.underlying45 hi hi0 hi1 hi2 rfl (by decide) _ _ _ rfl (H1k.out.alloc _) ⟨w2.heap.size, 0, none⟩ 1 1 [slP b] rfl rfl (fun j u hu => new_cell _ _ _ hu) (by simp [Value.oneCell', slP]) hj3 (by omega) (by simp; omega) ?_; intro v5 w5 hown5 hgrow5 _)
        have hb3 : Below wr.heap.size wr (w2.alloc (.cells #[slP b] 38)) := HB2.out.alloc hz2 _
        have hpr := pairs_snoc (rs := imT ps j) (B := w.heap.size + 1) (by rw [HTJ.out]; exact H1.out) (by rw [HTJ.out]; exact H234.out.1) H234.out.2.1 H234.out.2.2 hb3 p1 hb0 (by simp; omega) (HPN.out.of ((below_new w2 _).block b hb1)) (by rw [HTJ.out]; exact hown5) hgrow5
        rw [← HTS.out] at hpr
        have hbg : Below (w.heap.size + 1) wr w5 := (hb3.mono p1).grown hgrow5 (by simp; omega) (fun k e => (World.ownsRow.lt H1.out k e).1)
        exact ⟨⟨j + 1, hlt, by go_num, hpr, HBO.out.of hbg.size (hbg.block _ (by omega)), HBR.out.trans (hbg.mono (by omega))⟩, by simp [RowKit.intOf]; omega⟩
      · obtain rfl : j = K := by omega
        have hlt2 : ¬ ((j : Int) < (j : Int)) := by omega
        clear hbel p0
        go_wp2_with fail
        go_ret2
        have h := HPA.out
        rw [HTA.out] at h
        exact ⟨_, rfl, h.base (by omega), HBR.out⟩

/-- Images as cells, one behind the other. -/
def imCells (rs : List (Int × Int)) : List Value := rs.flatMap fun r => [.int .i64 r.1, .int .i64 r.2]
theorem imCells_length (rs : List (Int × Int)) : (imCells rs).length = rs.length * 2 := by
  induction rs with
  | nil => rfl
  | cons r rs ih => simp [imCells] at ih ⊢; omega
theorem imCells_snoc (rs : List (Int × Int)) (r : Int × Int) : imCells (rs ++ [r]) = imCells rs ++ [.int .i64 r.1, .int .i64 r.2] := by simp [imCells]
theorem imCells_at : ∀ (rs : List (Int × Int)) (k : Nat), k < rs.length → (imCells rs)[k * 2]? = some (.int .i64 (rs.getD k (0, 0)).1) ∧ (imCells rs)[k * 2 + 1]? = some (.int .i64 (rs.getD k (0, 0)).2)
  | [], k, h => by simp at h
  | r :: rs, 0, h => by simp [imCells]
  | r :: rs, k + 1, h => by
    have ih := imCells_at rs k (by simpa using h)
    have e : imCells (r :: rs) = [.int .i64 r.1, .int .i64 r.2] ++ imCells rs := by simp [imCells]
    rw [e, List.getElem?_append_right (by simp; omega), List.getElem?_append_right (by simp; omega)]
    simpa [show (k + 1) * 2 - 2 = k * 2 by omega, show (k + 1) * 2 + 1 - 2 = k * 2 + 1 by omega] using ih
/-- A row of images of the call's own. -/
def ImsAt (w : World) (B : Nat) (v : Value) (rs : List (Int × Int)) : Prop := w.ownsRow B 85 2 v rs.length (imCells rs)
theorem imsAt_nil (w : World) (B : Nat) : ImsAt w B (.slice none 0 0) [] := World.ownsRow_nil _ _ _ _
theorem ImsAt.rd {w : World} {B : Nat} {v : Value} {rs : List (Int × Int)} (h : ImsAt w B v rs) : ∃ a cap, v = .slice a rs.length cap ∧ cap ≤ maxLen ∧ rs.length ≤ cap ∧ ∀ k, k < rs.length → ∃ g, a = some ⟨g, 0, none⟩ ∧ B ≤ g ∧ g < w.heap.size ∧ w.cell? ⟨g, k * 2, none⟩ = some (.int .i64 (rs.getD k (0, 0)).1) ∧ w.cell? ⟨g, k * 2 + 1, none⟩ = some (.int .i64 (rs.getD k (0, 0)).2) := by
  rcases h.2 with ⟨rfl, h0⟩ | ⟨g, cap, cur, rfl, hB, hg, hn, hm, _⟩
  · exact ⟨none, 0, by rw [h0], by omega, by omega, fun k hk => by omega⟩
  · refine ⟨_, cap, rfl, hm, hn, fun k hk => ⟨g, rfl, hB, (Array.getElem?_eq_some_iff.1 hg).1, ?_, ?_⟩⟩
    · rw [World.ownsRow.cellAt h (k * 2) (by omega)]; exact (imCells_at rs k hk).1
    · rw [World.ownsRow.cellAt h (k * 2 + 1) (by omega)]; exact (imCells_at rs k hk).2
theorem infoIm : (Try.prog.info? 85).map (fun i => (i.zero, i.size, i.bytes)) = some (some (.agg #[.int .i64 0, .int .i64 0]), 2, 16) := by kernel_rfl
theorem two_new (w : World) (x y : Value) (T : TypeId) {s : Nat} (hs : w.heap.size = s) {j : Nat} {u : Value} (h : [x, y][j]? = some u) : (w.alloc (.cells #[x, y] T)).cell? ((⟨s, 0, none⟩ : Addr).add j) = some u := by
  subst hs
  cases j with
  | zero => simp at h; subst h; simp [Addr.add]
  | succ j => cases j with
    | zero => simp at h; subst h; simp [Addr.add]
    | succ j => simp at h

set_option maxRecDepth 100000 in
set_option maxHeartbeats 8000000 in
theorem images_any (ps : List Pt) (v : Value) (w : World) (hg : omB ps = true) (h : OthIn w v ps) :
    Calls Try.prog 73 #[v] w fun e w' => ∃ v', e = .returned v' ∧ ImsAt w' w.heap.size v' (imL ps) ∧ Below w.heap.size w w' := by
  obtain ⟨a, c, rfl, hx⟩ := h.rd
  have hl8 := omB_len hg
  have HX := Lib.hid hx
  have HOK := Lib.hid (fun j (hj : j < ps.length) => omB_at hg hj)
  have HIM : Hid (∀ j, imAt ps j = (pbh (ps.getD j pt0) j % imMod (ps.getD j pt0) ps.length, imMod (ps.getD j pt0) ps.length)) := Lib.hid (fun j => rfl)
  have HT := Lib.hid (fun j (h : j < ps.length) => imT_succ h)
  have HTL := Lib.hid (fun j (h : j ≤ ps.length) => imT_len h)
  have HTA := Lib.hid (imT_all ps)
  obtain ⟨K, hK⟩ : ∃ K, ps.length = K := ⟨_, rfl⟩
  rw [hK] at HX HOK HIM HT HTL HTA hl8 ⊢
  obtain ⟨hl1, hl2⟩ := hl8
  obtain ⟨i0, hi, hi0, hi1, hi2⟩ := info_parts infoIm
  have HZ : Hid (∀ W B, ImsAt W B (.slice none 0 0) (imT ps 0)) := Lib.hid (fun W B => imsAt_nil W B)
  have HB := Lib.hid (below_new w (.cells #[.slice a K c] 29))
  have HBo := Lib.hid (Bo.new w (.slice a K c) 29)
  clear hg h hx hK
  go_enter Try.func73, Try.ntmps73
  go_wp2_with fail
  go_loopw [4, 5, 6, 7, 8, 15] (fun v _ _ _ _ i wr => ∃ j : Nat, j ≤ K ∧ i = .int .i64 j ∧ ImsAt wr (w.heap.size + 1) v (imT ps j) ∧ Bo wr w.heap.size (.slice a K c) ∧ Below w.heap.size w wr) (fun _ _ _ _ _ i _ => K - (RowKit.intOf i).toNat)
  case atStart => exact ⟨0, Nat.zero_le _, rfl, HZ.out _ _, HBo.out, HB.out⟩
  case round =>
    clear HZ HBo HB
    obtain ⟨j, hj, rfl, hpa, hbo, hbel⟩ := hrel
    have HBR := Lib.hid hbel
    have HBO := Lib.hid hbo
    have HPA := Lib.hid hpa
    obtain ⟨p0, p1⟩ := hbo
    by_cases hlt : j < K
    · obtain ⟨g, rfl, hgl, q⟩ := HX.out j hlt
      have q2 := q.of (hbel.block g hgl)
      have hok := HOK.out j hlt
      have hin := ptIn_iff.1 (ptOk_iff.1 hok).1
      have HIMJ := Lib.hid (HIM.out j)
      have HM1 := Lib.hid (imMod_pos hok hl1)
      have HM2 := Lib.hid (imMod_le hok hl2)
      have HNX := Lib.hid (pbh_next hok)
      have HW1 := Lib.hid (tdiv_exact (ptOk_iff.1 hok).2.1)
      have hw2 := (Bool.and_eq_true_iff.1 ((ptOk_two (q := ps.getD j pt0) (r := (j : Int)) (m := (K : Int)) (ptOk_iff.1 hok).1).symm.trans hok)).2
      rw [decide_eq_true_eq] at hw2
      have HW2 := Lib.hid (tdiv_exact hw2)
      have HS1 := Lib.hid (pbh_size (q := ps.getD j pt0) (n := (j : Int)) (ptOk_iff.1 hok).1 (by omega) (by omega))
      have HS2 := Lib.hid (pbh_size (q := ps.getD j pt0) (n := (j : Int) + (K : Int)) (ptOk_iff.1 hok).1 (by omega) (by omega))
      clear q hbel hpa hw2
      obtain ⟨pt, hpt⟩ : ∃ pt, ps.getD j pt0 = pt := ⟨_, rfl⟩
      rw [hpt] at q2 hin HIMJ HM1 HM2 HNX HW1 HW2 HS1 HS2 hok
      obtain ⟨t, p, o⟩ := pt
      obtain ⟨k0, k1, k2⟩ := q2
      dsimp only at k0 k1 k2 hin HW1 HW2
      obtain ⟨i1, i2, i3, i4, i5, i6⟩ := hin
      have hb1 := mul20 (t := t) (n := (j : Int)) (B := 16) i1 i2 (by omega) (by omega)
      have hb2 := mul20 (t := t) (n := (j : Int) + (K : Int)) (B := 16) i1 i2 (by omega) (by omega)
      have HDD : Hid (∀ n w, ((t * n + p).tdiv o = pbh (t, p, o) n ∧ -320 ≤ t * n ∧ t * n ≤ 320) → Calls Try.prog 91 #[.agg #[.int .i64 t, .int .i64 p, .int .i64 o], .int .i64 n] w fun e w' => e = .returned (.int .i64 (pbh (t, p, o) n)) ∧ Below w.heap.size w w') := Lib.hid (fun n w hn => by
        obtain ⟨h1, h2, h3⟩ := hn
        have := behind_any t p o n (t * n) w rfl (by omega) (by omega) i3 i4 i5
        rw [h1] at this
        exact this)
      have HP1 : ((t * (j : Int) + p).tdiv o = pbh (t, p, o) (j : Int) ∧ -320 ≤ t * (j : Int) ∧ t * (j : Int) ≤ 320) := ⟨HW1.out, by omega, by omega⟩
      have HP2 : ((t * ((j : Int) + (K : Int)) + p).tdiv o = pbh (t, p, o) ((j : Int) + (K : Int)) ∧ -320 ≤ t * ((j : Int) + (K : Int)) ∧ t * ((j : Int) + (K : Int)) ≤ 320) := ⟨HW2.out, by omega, by omega⟩
      obtain ⟨jk, hjk⟩ : ∃ jk, (j : Int) + (K : Int) = jk := ⟨_, rfl⟩
      rw [hjk] at HP2 HNX HS2
      have hjk1 : 0 ≤ jk := by omega
      have hjk2 : jk ≤ 16 := by omega
      have hwj : IntKind.i64.wrap jk = jk := wrap_idO (by omega) (by omega)
      obtain ⟨G, hG⟩ : ∃ G : Int → Int, (fun n => pbh (t, p, o) n) = G := ⟨_, rfl⟩
      have hG2 : ∀ n, pbh (t, p, o) n = G n := fun n => by rw [← hG]
      simp only [hG2] at HNX HS1 HIMJ HS2 HDD HP1 HP2
      obtain ⟨M, hM⟩ : ∃ M, imMod (t, p, o) K = M := ⟨_, rfl⟩
      rw [hM] at HM1 HM2 HNX HIMJ
      have HQ1 : Hid (OKN (fun n => ((t * n + p).tdiv o = G n ∧ -320 ≤ t * n ∧ t * n ≤ 320)) (j : Int)) := Lib.hid HP1
      have HQ2 : Hid (OKN (fun n => ((t * n + p).tdiv o = G n ∧ -320 ≤ t * n ∧ t * n ≤ 320)) jk) := Lib.hid HP2
      replace HDD : Hid (∀ n w, OKN (fun n => ((t * n + p).tdiv o = G n ∧ -320 ≤ t * n ∧ t * n ≤ 320)) n → Calls Try.prog 91 #[.agg #[.int .i64 t, .int .i64 p, .int .i64 o], .int .i64 n] w fun e w' => e = .returned (.int .i64 (G n)) ∧ Below w.heap.size w w') := Lib.hid (fun n w hn => HDD.out n w hn)
      generalize (fun n => ((t * n + p).tdiv o = G n ∧ -320 ≤ t * n ∧ t * n ≤ 320)) = OK at *
      obtain ⟨s1, s2⟩ := HS1.out
      obtain ⟨s3, s4⟩ := HS2.out
      have hlt2 : (j : Int) < (K : Int) := by omega
      have hj0 : (0 : Int) ≤ (j : Int) := by omega
      have hne : ¬ (w.heap.size = wr.heap.size) := by omega
      have hne2 : ¬ (wr.heap.size = w.heap.size) := by omega
      have hge : ¬ (g = wr.heap.size) := by omega
      have HTS := Lib.hid (HT.out j hlt)
      have HTJ := Lib.hid (HTL.out j hj)
      have HBn := Lib.hid (HBO.out.grow (.cells #[.int .i64 t, .int .i64 p, .int .i64 o] 65))
      have HRn := Lib.hid (HBR.out.trans ((below_new wr (.cells #[.int .i64 t, .int .i64 p, .int .i64 o] 65)).mono HBR.out.size))
      have HOn := Lib.hid (show ImsAt (wr.alloc (.cells #[.int .i64 t, .int .i64 p, .int .i64 o] 65)) (w.heap.size + 1) u4 (imT ps j) from ownsRow_kept HPA.out (below_new wr (.cells #[.int .i64 t, .int .i64 p, .int .i64 o] 65)))
      clear hM hG hG2 hpt hok hb1 hb2 HP1 HP2 HW1 HW2
      go_upto_region 6 with fail
      go_cut [7, 8] from 20 to 27 (fun s7 s8 wx => s7 = .int .i64 (G (j : Int)) ∧ s8 = .int .i64 (G jk) ∧ Hid (Below (wr.alloc (.cells #[.int .i64 t, .int .i64 p, .int .i64 o] 65)).heap.size (wr.alloc (.cells #[.int .i64 t, .int .i64 p, .int .i64 o] 65)) wx))
      case first =>
        go_region_with (go_at_call 91; refine (HDD.out _ _ (by first | exact HQ1.out | exact HQ2.out)).mono ?_; (first
          | (rintro e w6 ⟨rfl, hb6⟩; have HB6 : Hid (Below (wr.alloc (.cells #[.int .i64 t, .int .i64 p, .int .i64 o] 65)).heap.size (wr.alloc (.cells #[.int .i64 t, .int .i64 p, .int .i64 o] 65)) w6) := Lib.hid (HB5.out.trans (by first | exact hb6.mono HB5.out.size | exact ((Below.refl _ _).drew.trans hb6).mono HB5.out.size | exact ((Below.refl _ _).drew.drew.trans hb6).mono HB5.out.size)); clear hb6)
          | (rintro e w5 ⟨rfl, hb5⟩; have HB5 : Hid (Below (wr.alloc (.cells #[.int .i64 t, .int .i64 p, .int .i64 o] 65)).heap.size (wr.alloc (.cells #[.int .i64 t, .int .i64 p, .int .i64 o] 65)) w5) := Lib.hid (by first | exact hb5 | exact (Below.refl _ _).drew.trans hb5 | exact (Below.refl _ _).drew.drew.trans hb5); clear hb5; obtain ⟨⟨m0, m1, m2⟩, _, _⟩ := one_block HB5.out)))
        all_goals
          go_wp2_with fail
          go_meet
          case rel => exact ⟨rfl, rfl, Lib.hid (by first | exact HB6.out | exact HB6.out.drew | exact HB6.out.drew.drew)⟩
      case rest =>
        obtain ⟨rfl, rfl, HC⟩ := hcut
        have HBO2 := Lib.hid (HBn.out.kept HC.out)
        have HBR2 := Lib.hid (HRn.out.trans (HC.out.mono HRn.out.size))
        have HO2 := Lib.hid (show ImsAt _ (w.heap.size + 1) u4 (imT ps j) from ownsRow_kept HOn.out HC.out)
        have hzc := HC.out.size
        clear HC HOn HBn HRn HDD HQ1 HQ2 hjk hwj k0 k1 k2
        generalize G (j : Int) = F at *
        generalize G jk = S at *
        have hM1 := HM1.out
        have hM2 := HM2.out
        have hM3 := HNX.out
        have hsf1 : 1 ≤ S - F := by omega
        have hsf2 : S - F ≤ 160 := by omega
        have HRM := Lib.hid (fun w => remainderOf_any F (S - F) w hsf1 (by omega))
        have HV : Hid (imAt ps j = (F % (S - F), S - F)) := Lib.hid (by rw [HIMJ.out, hM3])
        clear hM1 hM2 hM3 HIMJ HNX
        have hj3 : (imT ps j).length + 1 ≤ maxLen := by rw [HTJ.out]; unfold maxLen; omega
        have hj4 := HTJ.out
        obtain ⟨l, hl⟩ : ∃ l, l = imT ps j := ⟨_, rfl⟩
        rw [← hl] at HO2 HTS hj3 hj4
        have hz2 := HBO2.out.2
        clear hl HTJ
        go_wp2_with fail
        refine (HRM.out _).mono ?_
        rintro e w6 ⟨rfl, rfl⟩
        obtain ⟨q, hq⟩ : ∃ q, F % (S - F) = q := ⟨_, rfl⟩
        rw [hq] at HV ⊢
        clear hq
        go_wp2_with (at_builtin; refine wpList_append_own _ rfl _ _ 82 rfl (w.heap.size + 1) 85 i0 (.agg #[.int .i64 0, .int .i64 0]) 2 16 Try.underlying82 hi hi0 hi1 hi2 rfl (by decide) _ _ _ rfl (HO2.out.alloc _) ⟨wc.heap.size, 0, none⟩ 1 1 [.int .i64 q, .int .i64 (S - F)] rfl rfl (fun j u hu => two_new _ _ _ _ rfl hu) (by simp [Value.oneCell']) hj3 (by omega) (by simp; omega) ?_; intro v5 w5 hown5 hgrow5 _)
        have hb3 : Below (w.heap.size + 1) wc (wc.alloc (.cells #[.int .i64 q, .int .i64 (S - F)] 85)) := (Below.refl _ wc).alloc hz2 _
        have hbg : Below (w.heap.size + 1) wc w5 := hb3.grown hgrow5 (by simp; omega) (fun k e => (World.ownsRow.lt HO2.out k e).1)
        refine ⟨⟨j + 1, hlt, by go_num, ?_, HBO2.out.of hbg.size (hbg.block _ (by omega)), HBR2.out.trans (hbg.mono (by omega))⟩, by simp [RowKit.intOf]; omega⟩
        unfold ImsAt
        rw [HTS.out, HV.out, imCells_snoc, List.length_append]
        exact hown5
    · obtain rfl : j = K := by omega
      have hlt2 : ¬ ((j : Int) < (j : Int)) := by omega
      clear hbel hpa p0
      go_wp2_with fail
      go_ret
      have h := HPA.out
      rw [HTA.out] at h
      exact ⟨_, rfl, ownsRow_base h (by omega), HBR.out⟩

set_option maxRecDepth 100000 in
set_option maxHeartbeats 4000000 in
theorem iImagesOf (ps : List Pt) (v : Value) (w : World) (hl : ps.length ≤ 1048576) (h : OthIn w v ps) :
    Calls Try.prog 33 #[v] w (RetPairs (imR ps) (omB ps) w) := by
  obtain ⟨u, rfl, hpi⟩ := h
  have HOI := Lib.hid (fun W (hb : Below w.heap.size w W) => (show OthIn w (.agg #[u]) ps from ⟨u, rfl, hpi⟩).kept hb)
  have HG := Lib.hid (fun X => isOther_any ps (.agg #[u]) (w.alloc X) hl (HOI.out _ (below_new w X)))
  have HB := Lib.hid (fun X => below_new w X)
  have HBo := Lib.hid (fun T => Bo.new w u T)
  clear hpi hl
  by_cases hg : omB ps = true
  case neg =>
    have hg' : omB ps = false := by simpa using hg
    have HL : Hid (imR ps = []) := Lib.hid (by rw [imR, hg']; rfl)
    rw [hg'] at HG
    rw [hg', HL.out]
    clear hg hg'
    go_enter Try.func33, Try.ntmps33
    go_wp2_with fail
    refine (HG.out _).mono ?_
    rintro e w1 ⟨rfl, hb1⟩
    have HB1 := Lib.hid ((HB.out _).trans (hb1.mono (HB.out _).size))
    clear hb1
    go_wp2_with fail
    go_ret2
    exact ⟨_, rfl, pairsAt_nil _ _, HB1.out⟩
  case pos =>
    have HL : Hid (imR ps = imL ps) := Lib.hid (by rw [imR, if_pos hg])
    have HX := Lib.hid (fun W hm => images_any ps (.agg #[u]) W hg hm)
    have hl8 : (imL ps).length ≤ 8 := by rw [imL_length]; exact (omB_len hg).2
    rw [hg] at HG
    rw [hg, HL.out]
    clear hg HL
    generalize imL ps = rs at *
    have HT := Lib.hid (fun j (hj : j < rs.length) => take_snoc (rs := rs) hj)
    have HF : Hid (rs.take rs.length = rs) := Lib.hid List.take_length
    have HTL : Hid (∀ j, j ≤ rs.length → (rs.take j).length = j) := Lib.hid (fun j hj => by rw [List.length_take]; omega)
    have HZ : Hid (∀ W B, PairsAt W B (.slice none 0 0) (rs.take 0)) := Lib.hid (fun W B => by simpa using pairsAt_nil W B)
    obtain ⟨i0, hi, hi0, hi1, hi2⟩ := info_parts info36
    obtain ⟨K, hK⟩ : ∃ K, rs.length = K := ⟨_, rfl⟩
    rw [hK] at HT HF HTL hl8
    have HKK := Lib.hid hK
    clear hK
    go_enter Try.func33, Try.ntmps33
    go_wp2_with fail
    refine (HG.out _).mono ?_
    rintro e w1 ⟨rfl, hb1⟩
    have hbo := (HBo.out 29).kept hb1
    have HB1 := Lib.hid ((HB.out (.cells #[u] 29)).trans (hb1.mono (HB.out _).size))
    obtain ⟨p0, p1⟩ := hbo
    clear hb1
    go_wp2_with fail
    refine (HX.out _ (HOI.out _ HB1.out)).mono ?_
    rintro e w2 ⟨v2, rfl, hr2, hb2⟩
    have HB2 := Lib.hid (HB1.out.trans (hb2.mono HB1.out.size))
    obtain ⟨a2, c2, rfl, hc1, hc2, hx2⟩ := hr2.rd
    rw [HKK.out] at hx2 hc2 ⊢
    have HX2 := Lib.hid hx2
    have hz2 := HB2.out.size
    have hK8 : (K : Int) ≤ 8 := by omega
    clear hb2 p0 p1 hr2 hx2
    go_wp2_with fail
    go_loopw [4, 6, 13] (fun v _ i wr => ∃ j : Nat, j ≤ K ∧ i = .int .i64 j ∧ PairsAt wr w2.heap.size v (rs.take j) ∧ Below w2.heap.size w2 wr) (fun _ _ i _ => K - (RowKit.intOf i).toNat)
    case atStart => exact ⟨0, Nat.zero_le _, rfl, HZ.out _ _, Below.refl _ _⟩
    case round =>
      clear HZ
      obtain ⟨j, hj, rfl, hpa, hbel⟩ := hrel
      have HBR := Lib.hid hbel
      have hsz := hbel.size
      have HPA := Lib.hid hpa
      by_cases hlt : j < K
      · obtain ⟨g, rfl, hgb, hg, q0, q1⟩ := HX2.out j hlt
        have k0 : wr.cell? ⟨g, j * 2, none⟩ = some (.int .i64 (rs.getD j (0, 0)).1) := (hbel.cell (p := ⟨g, _, none⟩) hg).trans q0
        have k1 : wr.cell? ⟨g, j * 2 + 1, none⟩ = some (.int .i64 (rs.getD j (0, 0)).2) := (hbel.cell (p := ⟨g, _, none⟩) hg).trans q1
        have hlt2 : (j : Int) < (K : Int) := by omega
        have HTS := Lib.hid (HT.out j hlt)
        have HTJ := Lib.hid (HTL.out j hj)
        obtain ⟨r, hr⟩ : ∃ r, rs.getD j (0, 0) = r := ⟨_, rfl⟩
        rw [hr] at k0 k1 HTS
        obtain ⟨x, y⟩ := r
        dsimp only at k0 k1
        obtain ⟨bs, h1, h2, h3, h4⟩ := HPA.out
        rw [HTJ.out] at h1 h2
        have H1 := Lib.hid h1
        have H234 := Lib.hid (And.intro h2 (And.intro h3 h4))
        have hj3 : j + 1 ≤ maxLen := by unfold maxLen; omega
        have hge : ¬ (g = wr.heap.size) := by omega
        clear h1 h2 h3 h4 hr q0 q1 hbel hpa
        go_wp2_with (at_builtin; refine wpList_append_own _ rfl _ _ 45 rfl w2.heap.size 38 i0 (.slice none 0 0) 1 24 Try.underlying45 hi hi0 hi1 hi2 rfl (by decide) _ _ _ rfl (((H1.out.alloc _).alloc _).alloc _) ⟨wr.heap.size + 1 + 1, 0, none⟩ 1 1 [slP (wr.heap.size + 1)] rfl rfl (fun j u hu => new_cell_at _ _ _ (by simp) hu) (by simp [Value.oneCell', slP]) hj3 (by omega) (by simp; omega) ?_; intro v5 w5 hown5 hgrow5 _)
        have hb3 : Below wr.heap.size wr (((wr.alloc (.cells #[.int .i64 x, .int .i64 y] 85)).alloc (.cells #[.int .i64 x, .int .i64 y] 3)).alloc (.cells #[slP (wr.heap.size + 1)] 38)) := (((Below.refl _ wr).alloc (Nat.le_refl _) _).alloc (by simp) _).alloc (by simp; omega) _
        have hpn : PairAt (((wr.alloc (.cells #[.int .i64 x, .int .i64 y] 85)).alloc (.cells #[.int .i64 x, .int .i64 y] 3)).alloc (.cells #[slP (wr.heap.size + 1)] 38)) (wr.heap.size + 1) (x, y) := by
          have := pair_new (wr.alloc (.cells #[.int .i64 x, .int .i64 y] 85)) x y 3
          have e : (wr.alloc (.cells #[.int .i64 x, .int .i64 y] 85)).heap.size = wr.heap.size + 1 := by simp
          rw [e] at this
          exact this.of (((Below.refl (wr.heap.size + 2) _).alloc (by simp) _).block _ (by omega))
        have hpr := pairs_snoc (rs := rs.take j) (by rw [HTJ.out]; exact H1.out) (by rw [HTJ.out]; exact H234.out.1) H234.out.2.1 H234.out.2.2 hb3 hsz (by omega) (by simp) hpn (by rw [HTJ.out]; exact hown5) hgrow5
        rw [← HTS.out] at hpr
        exact ⟨⟨j + 1, hlt, by go_num, hpr, (HBR.out.trans (hb3.mono hsz)).grown hgrow5 (by simp; omega) (fun k e => (World.ownsRow.lt H1.out k e).1)⟩, by simp [RowKit.intOf]; omega⟩
      · obtain rfl : j = K := by omega
        have hlt2 : ¬ ((j : Int) < (j : Int)) := by omega
        clear hbel hpa
        go_wp2_with fail
        go_ret2
        have h := HPA.out
        rw [HF.out] at h
        exact ⟨_, rfl, h.base (by omega), HB2.out.trans (HBR.out.mono (by omega))⟩
end Go.Proofs.Ytbhmplccjaijjaa
