/-
  'mpPath' of the model: the path of so many steps, in a slice of its own.
-/
import Derived.Test.YtebbafapcknllaaLeafB
import Derived.Test.YtebbafapcknllaaOwn
namespace Go.Proofs.Ytebbafapcknllaa
open Go.RowKit
set_option linter.unusedVariables false

/-- The path of k steps: k + 1 numbers. -/
def pathL (f : Int → Int) (n : Int) (k : Nat) : List Int := (List.range (k + 1)).map fun (i : Nat) => itr f i n
theorem pathL_succ (f : Int → Int) (n : Int) (k : Nat) : pathL f n (k + 1) = pathL f n k ++ [itr f (k + 1) n] := by
  simp [pathL, List.range_succ]
theorem pathL_length (f : Int → Int) (n : Int) (k : Nat) : (pathL f n k).length = k + 1 := by simp [pathL]
theorem pathL_at (f : Int → Int) (n : Int) {k j : Nat} (h : j ≤ k) : (pathL f n k)[j]? = some (itr f j n) := by
  rw [pathL, List.getElem?_map, List.getElem?_range (by omega)]; rfl

/-- What a function that makes a path hands back. -/
def RetPath (xs : List Int) (ok : Bool) (w : World) (e : Ending) (w' : World) : Prop :=
  ∃ v, e = .returned (.tuple #[v, .bool ok]) ∧ IntsAt w' w.heap.size v xs ∧ Below w.heap.size w w' ∧ (xs = [] → v = .slice none 0 0)

/-- The path, if all on it are numbers. -/
def pathOr (f : Int → Int) (n : Int) (k : Nat) : List Int := if allB f n (k + 1) = true then pathL f n k else []

set_option maxRecDepth 100000 in
set_option maxHeartbeats 2000000 in
theorem mpPath_any (t p n : Int) (K : Nat) (w : World) (hg : goodB t p = true) (hn : numB n = true) (hK : K ≤ 1000) :
    Calls Try.prog 38 #[.agg #[.int .i64 t, .int .i64 p], .int .i64 n, .int .i64 (K : Int)] w (RetPath (pathOr (nx t p) n K) (allB (nx t p) n (K + 1)) w) := by
  have HG := Lib.hid hg
  have HN := Lib.hid hn
  obtain ⟨i0, hi, hi0, hi1, hi2⟩ := info_parts info3
  clear hg hn
  go_enter Try.func38, Try.ntmps38
  go_wp2_with fail
  have hown0 : ((w.alloc (Obj.cells #[Value.int IntKind.i64 t, Value.int IntKind.i64 p] 25)).alloc (Obj.cells #[Value.int IntKind.i64 n] 3)).ownsRow (w.heap.size + 1) 3 1 (.slice (some ⟨w.heap.size + 1, 0, none⟩) 1 1) 1 [.int .i64 n] := by
    have := World.ownsRow_lit (base := w.heap.size + 1) (e := 3) (size := 1) (w.alloc (Obj.cells #[Value.int IntKind.i64 t, Value.int IntKind.i64 p] 25)) #[Value.int IntKind.i64 n] 1 (by simp) (by unfold maxLen; omega) (by simp)
    simpa using this
  have HOWN := Lib.hid hown0
  clear hown0
  go_loopw [1, 2, 8] (fun a s out wr => ∃ (j r : Nat), a = .int .i64 (itr (nx t p) j n) ∧ s = .int .i64 r ∧ j + r = K ∧ allB (nx t p) n (j + 1) = true ∧
      wr.cell? ⟨w.heap.size, 0, none⟩ = some (.int .i64 t) ∧ wr.cell? ⟨w.heap.size, 1, none⟩ = some (.int .i64 p) ∧ Below w.heap.size w wr ∧ w.heap.size < wr.heap.size ∧ wr.ownsRow (w.heap.size + 1) 3 1 out (j + 1) ((pathL (nx t p) n j).map (Value.int .i64))) (fun _ s _ _ => (intOf s).toNat)
  case atStart => exact ⟨0, K, rfl, rfl, by omega, by simp [allB, itr, HN.out], by go_simp, by go_simp, ((Below.refl _ w).alloc (Nat.le_refl _) _).alloc (by simp) _, by simp; omega, by simpa [pathL, itr] using HOWN.out⟩
  case round =>
    obtain ⟨j, r, rfl, rfl, hjr, hall, c0, c1, hbr, hz, hown⟩ := hrel
    have hv : numB (itr (nx t p) j n) = true := allB_at (Nat.lt_succ_self j) hall
    obtain ⟨v, hvv⟩ : ∃ v, v = itr (nx t p) j n := ⟨_, rfl⟩
    rw [← hvv] at hv ⊢
    have HV := Lib.hid hvv
    have HNV := Lib.hid hv
    have HALL := Lib.hid hall
    have HJR := Lib.hid hjr
    have HO := Lib.hid hown
    have hr2 : r ≤ 1000 := by omega
    have hj2 : j ≤ 1000 := by omega
    clear hvv hv hall hjr hown
    by_cases hr : 0 < r
    · by_cases hnx : numB (nx t p v) = true
      · go_wp2_with fail
        refine (mpNext_any t p v _ HG.out HNV.out).mono ?_
        rintro e w2 ⟨rfl, hb2⟩
        have d0 := kept_cell hb2 hz c0
        have d1 := kept_cell hb2 hz c1
        have hz2 := Nat.lt_of_lt_of_le hz hb2.size
        have hbr2 := hbr.trans (hb2.mono (Nat.le_of_lt hz))
        have hown2 := ownsRow_kept HO.out hb2
        have HO2 := Lib.hid hown2
        clear c0 c1 hb2 hown2
        go_wp2_with fail
        refine (mpIs_any _ _).mono ?_
        rintro e w3 ⟨rfl, rfl⟩
        have hj3 : j + 1 + 1 ≤ maxLen := by unfold maxLen; omega
        go_wp2_with (at_builtin; refine wpList_append_own _ rfl _ _ 30 rfl (w.heap.size + 1) 3 i0 (.int .i64 0) 1 8 Try.underlying30 hi hi0 hi1 hi2 rfl (by decide) _ _ _ rfl (HO2.out.alloc _) ⟨w2.heap.size, 0, none⟩ 1 1 [.int .i64 (nx t p v)] rfl rfl ?c1 ?c2 ?c3 ?c4 ?c5 ?_; rotate_right; intro v' w3 hown3 hgrow _)
        case c1 => exact fun j u hu => new_cell _ _ _ hu
        case c2 => simp [Value.oneCell']
        case c3 => exact hj3
        case c4 => omega
        case c5 => simp; omega
        have hbg : Below (w.heap.size + 1) w2 w3 := ((Below.refl (w.heap.size + 1) w2).alloc (by omega) _).grown hgrow (by simp; omega) (fun k e => (HO2.out.lt k e).1)
        refine ⟨⟨j + 1, r - 1, by rw [itr_succ, ← HV.out], by rw [show ((r - 1 : Nat) : Int) = (r : Int) - 1 from by omega], by have := HJR.out; omega, by rw [allB_succ, HALL.out, itr_succ, ← HV.out, hnx]; rfl,
          (hbg.cell (p := ⟨w.heap.size, 0, none⟩) (Nat.lt_succ_self _)).trans d0, (hbg.cell (p := ⟨w.heap.size, 1, none⟩) (Nat.lt_succ_self _)).trans d1, hbr2.trans (hbg.mono (by omega)), Nat.lt_of_lt_of_le hz2 hbg.size, ?_⟩, by simp [intOf]; omega⟩
        rw [pathL_succ, itr_succ, ← HV.out, List.map_append]
        exact hown3
      · have hnx' : numB (nx t p v) = false := by simpa using hnx
        have hf : allB (nx t p) n (K + 1) = false := by
          rw [Bool.eq_false_iff]
          intro h
          have := allB_at (f := nx t p) (n := n) (j := j + 1) (k := K + 1) (by have := HJR.out; omega) h
          rw [itr_succ, ← HV.out, hnx'] at this
          exact Bool.noConfusion this
        have hp : pathOr (nx t p) n K = [] := by rw [pathOr, hf]; rfl
        rw [hp, hf]
        clear hp hf hnx
        go_wp2_with fail
        refine (mpNext_any t p v _ HG.out HNV.out).mono ?_
        rintro e w2 ⟨rfl, hb2⟩
        have hbr2 := hbr.trans (hb2.mono (Nat.le_of_lt hz))
        clear c0 c1 hb2
        go_wp2_with fail
        refine (mpIs_any _ _).mono ?_
        rintro e w3 ⟨rfl, rfl⟩
        go_wp2_with fail
        go_ret2
        exact ⟨_, rfl, World.ownsRow_nil _ _ _ _, hbr2, fun _ => rfl⟩
    · have hr0 : r = 0 := by omega
      have hjK : j = K := by have := HJR.out; omega
      have hok : allB (nx t p) n (K + 1) = true := by rw [← hjK]; exact HALL.out
      have hp : pathOr (nx t p) n K = pathL (nx t p) n K := by rw [pathOr, if_pos hok]
      have HP := Lib.hid hp
      have HOK := Lib.hid hok
      have hown := ownsRow_base HO.out (B' := w.heap.size) (by omega)
      rw [hjK, ← pathL_length (nx t p) n K] at hown
      have HW := Lib.hid hown
      clear hp hok hjK hown
      subst hr0
      go_wp2_with fail
      go_ret2
      rw [HP.out, HOK.out]
      refine ⟨_, rfl, ?_, hbr, ?_⟩
      · exact HW.out
      · intro h
        have := pathL_length (nx t p) n K
        rw [h] at this
        simp at this
end Go.Proofs.Ytebbafapcknllaa
