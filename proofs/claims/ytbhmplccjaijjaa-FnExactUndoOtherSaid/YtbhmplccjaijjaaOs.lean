/-
  'omNext', 'omPath' of the model.
-/
import Derived.Test.YtbhmplccjaijjaaOtG
import Derived.Test.YtbhmplccjaijjaaRem
import Derived.Test.YtbhmplccjaijjaaPath
import Derived.Deep.RegionWith
namespace Go.Proofs.Ytbhmplccjaijjaa
open Go.RowKit
set_option linter.unusedVariables false

theorem l1Mod_r (n m : Int) (w : World) (h1 : 1 ≤ m) (h2 : m ≤ 1000000) :
    Calls Try.prog 81 #[.int .i64 n, .int .i64 m] w fun e w' => e = .returned (.int .i64 (n % m)) ∧ w = w' := by
  have a := Int.tmod_lt_of_pos n (show 0 < m by omega)
  have b := Int.lt_tmod_of_pos n (show 0 < m by omega)
  have HR : Hid ((n.tmod m + m) % m = n % m) := Lib.hid (by rw [← Int.tmod_eq_emod_of_nonneg (by omega)]; exact res_two n m (by omega))
  have hm0 : (m == 0) = false := by simp; omega
  obtain ⟨x, hx⟩ : ∃ x, n.tmod m = x := ⟨_, rfl⟩
  rw [hx] at HR a b
  go_enter Try.func81, Try.ntmps81
  go_wp2_with fail
  go_ret
  exact ⟨ret_int HR.out, rfl⟩

set_option maxRecDepth 100000 in
set_option maxHeartbeats 4000000 in
theorem omNext_any (ps : List Pt) (n : Int) (v : Value) (w : World) (hg : omB ps = true) (hn : numB n = true) (h : OthIn w v ps) :
    Calls Try.prog 60 #[v, .int .i64 n] w fun e w' => e = .returned (.int .i64 (omN ps n)) ∧ Below w.heap.size w w' := by
  obtain ⟨a, c, rfl, hx⟩ := h.rd
  have hl := omB_len hg
  have hr := res_lt n hl.1
  have hrc := res_cast n hl.1
  obtain ⟨g, rfl, hgl, q⟩ := hx _ hr
  have HE : Hid (((ptOf ps n).1 * n + (ptOf ps n).2.1).tdiv (ptOf ps n).2.2 = omN ps n) := Lib.hid (om_tdiv hg n)
  have hbig := pt_big (ptOf_in hg n) hn
  have hin := ptIn_iff.1 (ptOf_in hg n)
  unfold ptOf at HE hbig hin
  obtain ⟨r, hrr⟩ : ∃ r, res ps.length n = r := ⟨_, rfl⟩
  obtain ⟨K, hK⟩ : ∃ K, ps.length = K := ⟨_, rfl⟩
  have HC := Lib.hid (fun w => l1Mod_r n ps.length w (by omega) (by omega))
  rw [← hrc] at HC
  rw [hrr] at HC q HE hbig hin hr
  rw [hK] at HC hr hl ⊢
  obtain ⟨pt, hpt⟩ : ∃ pt, ps.getD r pt0 = pt := ⟨_, rfl⟩
  rw [hpt] at q HE hbig hin
  obtain ⟨t, p, o⟩ := pt
  obtain ⟨k0, k1, k2⟩ := q
  dsimp only at k0 k1 k2 HE hbig hin
  obtain ⟨x, hx2⟩ : ∃ x, t * n = x := ⟨_, rfl⟩
  rw [hx2] at HE hbig
  have HB := Lib.hid (fun X Y => (((Below.refl w.heap.size w).alloc (Nat.le_refl _) X).alloc (by simp) Y))
  have HBD := Lib.hid (fun X Y => (((Below.refl w.heap.size w).alloc (Nat.le_refl _) X).drew.alloc (by simp) Y))
  have hne : ¬ (g = w.heap.size) := by omega
  have hne2 : ¬ (w.heap.size = g) := by omega
  have hr2 : (r : Int) < (K : Int) := by omega
  have hr0 : (0 : Int) ≤ (r : Int) := by omega
  have ho : (o == 0) = false := by simp; omega
  obtain ⟨hb1, hb2⟩ := hbig
  obtain ⟨i1, i2, i3, i4, i5, i6⟩ := hin
  have hl2 : (K : Int) ≤ 8 := by omega
  clear hl hx h hrc hrr hK hpt hg hn
  go_enter Try.func60, Try.ntmps60
  go_wp2_with fail
  go_region_with (go_at_call 81; refine (HC.out _).mono ?_; rintro e w4 ⟨rfl, rfl⟩)
  all_goals
    go_wp2_with fail
    go_ret
    exact ⟨ret_int HE.out, by first | exact (HB.out _ _).drew | exact HB.out _ _ | exact HBD.out _ _ | exact (HBD.out _ _).drew⟩

set_option maxRecDepth 100000 in
set_option maxHeartbeats 4000000 in
theorem omPath_any (ps : List Pt) (n : Int) (K : Nat) (v : Value) (w : World) (hg : omB ps = true) (hn : numB n = true) (hK : K ≤ 400) (h : OthIn w v ps) :
    Calls Try.prog 62 #[v, .int .i64 n, .int .i64 (K : Int)] w (RetPath (pathOr (omN ps) n K) (allB (omN ps) n (K + 1)) w) := by
  obtain ⟨u, rfl, hpi⟩ := h
  have HOI := Lib.hid (fun W (hb : Below w.heap.size w W) => (show OthIn w (.agg #[u]) ps from ⟨u, rfl, hpi⟩).kept hb)
  have HG := Lib.hid hg
  have HN := Lib.hid hn
  obtain ⟨i0, hi, hi0, hi1, hi2⟩ := info_parts info3
  clear hg hn hpi
  go_enter Try.func62, Try.ntmps62
  go_wp2_with fail
  have hown0 : ((w.alloc (Obj.cells #[u] 29)).alloc (Obj.cells #[Value.int IntKind.i64 n] 3)).ownsRow (w.heap.size + 1) 3 1 (.slice (some ⟨w.heap.size + 1, 0, none⟩) 1 1) 1 [.int .i64 n] := by
    have := World.ownsRow_lit (base := w.heap.size + 1) (e := 3) (size := 1) (w.alloc (Obj.cells #[u] 29)) #[Value.int IntKind.i64 n] 1 (by simp) (by unfold maxLen; omega) (by simp)
    simpa using this
  have HOWN := Lib.hid hown0
  have HB0 : Hid (Bo ((w.alloc (Obj.cells #[u] 29)).alloc (Obj.cells #[Value.int IntKind.i64 n] 3)) w.heap.size u) := Lib.hid ((Bo.new w u _).grow _)
  clear hown0
  go_loopw [1, 2, 8] (fun a s out wr => ∃ (j r : Nat), a = .int .i64 (itr (omN ps) j n) ∧ s = .int .i64 r ∧ j + r = K ∧ allB (omN ps) n (j + 1) = true ∧
      Bo wr w.heap.size u ∧ Below w.heap.size w wr ∧ wr.ownsRow (w.heap.size + 1) 3 1 out (j + 1) ((pathL (omN ps) n j).map (Value.int .i64))) (fun _ s _ _ => (intOf s).toNat)
  case atStart => exact ⟨0, K, rfl, rfl, by omega, by simp [allB, itr, HN.out], HB0.out, ((Below.refl _ w).alloc (Nat.le_refl _) _).alloc (by simp) _, by simpa [pathL, itr] using HOWN.out⟩
  case round =>
    clear HB0 HOWN
    obtain ⟨j, r, rfl, rfl, hjr, hall, hbo, hbr, hown⟩ := hrel
    have hv : numB (itr (omN ps) j n) = true := allB_at (Nat.lt_succ_self j) hall
    obtain ⟨v, hvv⟩ : ∃ v, v = itr (omN ps) j n := ⟨_, rfl⟩
    rw [← hvv] at hv ⊢
    have HV := Lib.hid hvv
    have HNV := Lib.hid hv
    have HALL := Lib.hid hall
    have HJR := Lib.hid hjr
    have HO := Lib.hid hown
    have HBR := Lib.hid hbr
    have HBO := Lib.hid hbo
    obtain ⟨c0, hz⟩ := hbo
    have hr2 : r ≤ 400 := by omega
    have hj2 : j ≤ 400 := by omega
    clear hvv hv hall hjr hown hbr
    by_cases hr : 0 < r
    · have HCN := Lib.hid (omNext_any ps v (.agg #[u]) wr HG.out HNV.out (HOI.out _ HBR.out))
      obtain ⟨y, hy⟩ : ∃ y, omN ps v = y := ⟨_, rfl⟩
      rw [hy] at HCN
      have HY := Lib.hid hy
      clear hy
      by_cases hnx : numB y = true
      · go_wp2_with fail
        refine HCN.out.mono ?_
        rintro e w2 ⟨rfl, hb2⟩
        have HBO2 := Lib.hid (HBO.out.kept hb2)
        have HBR2 := Lib.hid (HBR.out.trans (hb2.mono HBR.out.size))
        have HO2 := Lib.hid (ownsRow_kept HO.out hb2)
        have hz2 := HBO2.out.2
        clear hb2 c0
        go_wp2_with fail
        refine (mpIs_any _ _).mono ?_
        rintro e w3 ⟨rfl, rfl⟩
        have hj3 : j + 1 + 1 ≤ maxLen := by unfold maxLen; omega
        go_wp2_with (at_builtin; refine wpList_append_own _ rfl _ _ 38 rfl (w.heap.size + 1) 3 i0 (.int .i64 0) 1 8 Try.underlying38 hi hi0 hi1 hi2 rfl (by decide) _ _ _ rfl (HO2.out.alloc _) ⟨w2.heap.size, 0, none⟩ 1 1 [.int .i64 y] rfl rfl ?c1 ?c2 ?c3 ?c4 ?c5 ?_; rotate_right; intro v' w3 hown3 hgrow _)
        case c1 => exact fun j u hu => new_cell _ _ _ hu
        case c2 => simp [Value.oneCell']
        case c3 => exact hj3
        case c4 => omega
        case c5 => simp; omega
        have hbg : Below (w.heap.size + 1) w2 w3 := ((Below.refl (w.heap.size + 1) w2).alloc (by omega) _).grown hgrow (by simp; omega) (fun k e => (HO2.out.lt k e).1)
        refine ⟨⟨j + 1, r - 1, by rw [itr_succ, ← HV.out, HY.out], by rw [show ((r - 1 : Nat) : Int) = (r : Int) - 1 from by omega], by have := HJR.out; omega, by rw [allB_succ, HALL.out, itr_succ, ← HV.out, HY.out, hnx]; rfl,
          HBO2.out.of hbg.size (hbg.block _ (Nat.lt_succ_self _)), HBR2.out.trans (hbg.mono (by omega)), ?_⟩, by simp [intOf]; omega⟩
        rw [pathL_succ, itr_succ, ← HV.out, HY.out, List.map_append]
        exact hown3
      · have hnx' : numB y = false := by simpa using hnx
        have hf : allB (omN ps) n (K + 1) = false := by
          rw [Bool.eq_false_iff]
          intro h
          have := allB_at (f := omN ps) (n := n) (j := j + 1) (k := K + 1) (by have := HJR.out; omega) h
          rw [itr_succ, ← HV.out, HY.out, hnx'] at this
          exact Bool.noConfusion this
        have hp : pathOr (omN ps) n K = [] := by rw [pathOr, hf]; rfl
        rw [hp, hf]
        clear hp hf hnx
        go_wp2_with fail
        refine HCN.out.mono ?_
        rintro e w2 ⟨rfl, hb2⟩
        have HBR2 := Lib.hid (HBR.out.trans (hb2.mono HBR.out.size))
        clear hb2 c0
        go_wp2_with fail
        refine (mpIs_any _ _).mono ?_
        rintro e w3 ⟨rfl, rfl⟩
        go_wp2_with fail
        go_ret2
        exact ⟨_, rfl, World.ownsRow_nil _ _ _ _, HBR2.out, fun _ => rfl⟩
    · have hr0 : r = 0 := by omega
      have hjK : j = K := by have := HJR.out; omega
      have hok : allB (omN ps) n (K + 1) = true := by rw [← hjK]; exact HALL.out
      have hp : pathOr (omN ps) n K = pathL (omN ps) n K := by rw [pathOr, if_pos hok]
      have HP := Lib.hid hp
      have HOK := Lib.hid hok
      have hown := ownsRow_base HO.out (B' := w.heap.size) (by omega)
      rw [hjK, ← pathL_length (omN ps) n K] at hown
      have HW := Lib.hid hown
      clear hp hok hjK hown c0
      subst hr0
      go_wp2_with fail
      go_ret2
      rw [HP.out, HOK.out]
      refine ⟨_, rfl, ?_, HBR.out, ?_⟩
      · exact HW.out
      · intro h
        have := pathL_length (omN ps) n K
        rw [h] at this
        simp at this
end Go.Proofs.Ytbhmplccjaijjaa
