/-
  'cyWords' of the model: all words of a length.
-/
import Derived.Test.YtnhpoefhcngoaaaDoorFt
namespace Go.Proofs.YtnhpoefhcngoaaaDoor
open Go.RowKit
set_option linter.unusedVariables false

theorem new_cell2 (w : World) (x y : Value) (T : TypeId) {j : Nat} {u : Value} (h : [x, y][j]? = some u) : (w.alloc (.cells #[x, y] T)).cell? ((⟨w.heap.size, 0, none⟩ : Addr).add j) = some u := by
  match j, h with
  | 0, h => simp at h; subst h; simp [Addr.add]
  | 1, h => simp at h; subst h; simp [Addr.add]
  | j + 2, h => simp at h
theorem strs_row {w : World} {B : Nat} {v : Value} {xs : List ByteArray} (h : StrsAt w B v xs) (hn : 0 < xs.length) : ∃ g cap, v = .slice (some ⟨g, 0, none⟩) xs.length cap ∧ B ≤ g ∧ g < w.heap.size ∧ StrRow w g xs := by
  rcases h.cases with ⟨_, rfl⟩ | ⟨g, cap, rfl, h1, h2, _, h4⟩
  · cases hn
  · exact ⟨g, cap, rfl, h1, h2, h4⟩

set_option maxRecDepth 100000 in
set_option maxHeartbeats 8000000 in
theorem cyWords_any (L : Nat) (w : World) (hL : L ≤ 10) :
    Calls Tryd.prog 47 #[.int .i64 (L : Int)] w fun e w' => ∃ v, e = .returned v ∧ StrsAt w' w.heap.size v (allX L (2 ^ L)) ∧ Below w.heap.size w w' := by
  obtain ⟨i0, hi, hi0, hi1, hi2⟩ := info_parts infoS
  have hown0 : StrsAt (w.alloc (Obj.cells #[Value.string ⟨#[]⟩] 9)) w.heap.size (.slice (some ⟨w.heap.size, 0, none⟩) 1 1) (allX 0 1) := by
    have := World.ownsRow_lit (base := w.heap.size) (e := 9) (size := 1) w #[Value.string ⟨#[]⟩] 1 (by simp) (by unfold maxLen; omega) (by simp)
    simpa [StrsAt, allX, pw, patP, bts] using this
  have HO0 := Lib.hid hown0
  clear hown0
  go_enter Tryd.func47, Tryd.ntmps47
  go_wp2_with fail
  go_loopw [0, 3] (fun x v wr => ∃ m r : Nat, m + r = L ∧ x = .int .i64 r ∧ StrsAt wr w.heap.size v (allX m (2 ^ m)) ∧ Below w.heap.size w wr) (fun x _ _ => (intOf x).toNat)
  case atStart => exact ⟨0, L, by omega, rfl, HO0.out, (Below.refl _ w).alloc (Nat.le_refl _) _⟩
  case round =>
    clear HO0
    obtain ⟨m, r, hmr, rfl, hown, hbr⟩ := hrel
    have HO := Lib.hid hown
    have HBR := Lib.hid hbr
    have HMR := Lib.hid hmr
    have hr10 : r ≤ 10 := by omega
    by_cases hr : 0 < r
    · have hN := pow2_1024 (L := m) (by omega)
      have hNp := pow2_pos m
      obtain ⟨g, cap, rfl, hg1, hg2, hrow⟩ := strs_row hown (by rw [allX_length]; exact hNp)
      rw [allX_length]
      have HROW := Lib.hid hrow
      have HP2 : Hid (2 ^ (m + 1) = 2 * 2 ^ m) := Lib.hid (by rw [Nat.pow_succ, Nat.mul_comm])
      have hm10 : m ≤ 10 := by omega
      have hwr : w.heap.size ≤ wr.heap.size := hbr.size
      obtain ⟨N, hNN⟩ : ∃ N, 2 ^ m = N := ⟨_, rfl⟩
      rw [hNN] at hN hNp HROW HP2 ⊢
      have hNi : (N : Int) ≤ 1024 := by omega
      clear hown hbr hrow hmr hNN
      go_wp2_with fail
      obtain ⟨wo, rfl⟩ : ∃ wo : World, wo = wr := ⟨_, rfl⟩
      go_loopw [4, 14] (fun v x wr => ∃ j : Nat, j ≤ N ∧ x = .int .i64 j ∧ wr.ownsRow wo.heap.size 9 1 v (2 * j) ((allX (m + 1) (2 * j)).map Value.string) ∧ Below wo.heap.size wo wr) (fun _ x _ => N - (intOf x).toNat)
      case atStart => exact ⟨0, Nat.zero_le _, rfl, World.ownsRow_nil _ _ _ _, Below.refl _ _⟩
      case round =>
        obtain ⟨j, hj, rfl, howi, hbi⟩ := hrel
        have HOI := Lib.hid howi
        have HBI := Lib.hid hbi
        have hsz := hbi.size
        by_cases hlt : j < N
        · have hjN : (j : Int) < (N : Int) := by omega
          have q : wr.cell? ⟨g, j, none⟩ = some (.string (bts (pw j m))) := by
            rw [hbi.cell (p := ⟨g, j, none⟩) hg2, (HROW.out j (by rw [allX_length]; exact hlt)).1, allX_at hlt]
          have hce := fun w => bts_cat (pw j m) [101] (by rw [pw_length]; simp; omega) w
          have hco := fun w => bts_cat (pw j m) [111] (by rw [pw_length]; simp; omega) w
          have HTW := Lib.hid (allX_two m j)
          have e101 : bts [101] = ⟨#[101]⟩ := rfl
          have e111 : bts [111] = ⟨#[111]⟩ := rfl
          rw [e101] at hce
          rw [e111] at hco
          generalize pw j m ++ [101] = le at hce HTW
          generalize pw j m ++ [111] = lo at hco HTW
          generalize bts (pw j m) = sj at q hce hco
          clear howi hbi e101 e111
          go_wp2_with (at_builtin; refine wpList_append_own _ rfl _ _ 36 rfl wo.heap.size 9 i0 (.string ⟨#[]⟩) 1 16 Tryd.underlying36 hi hi0 hi1 hi2 rfl (by decide) _ _ _ rfl (HOI.out.alloc _) ⟨wr.heap.size, 0, none⟩ 2 2 [.string (bts le), .string (bts lo)] rfl rfl (fun j u hu => new_cell2 _ _ _ _ hu) (by simp [Value.oneCell']) (by unfold maxLen; omega) (by omega) (by simp; omega) ?_; intro v' w4 hown4 hgrow _)
          have hbg : Below wo.heap.size wr w4 := ((Below.refl wo.heap.size wr).alloc hsz _).grown hgrow (by simp; omega) (fun k e => (HOI.out.lt k e).1)
          refine ⟨⟨j + 1, hlt, by go_num, ?_, HBI.out.trans hbg⟩, by simp [intOf]; omega⟩
          rw [HTW.out, List.map_append, show 2 * (j + 1) = 2 * j + 2 by omega]
          exact hown4
        · obtain rfl : j = N := by omega
          have hjj : ¬ ((j : Int) < (j : Int)) := by omega
          clear howi hbi
          go_wp2_with fail
          refine ⟨⟨m + 1, r - 1, by have := HMR.out; omega, by rw [show ((r - 1 : Nat) : Int) = (r : Int) - 1 from by omega], ?_, HBR.out.trans (HBI.out.mono hwr)⟩, by simp [intOf]; omega⟩
          have ho := ownsRow_base HOI.out (B' := w.heap.size) hwr
          unfold StrsAt
          rw [allX_length, HP2.out]
          exact ho
    · have hr0 : r = 0 := by omega
      have hm : m = L := by omega
      subst hr0 hm
      clear hown hbr
      go_wp2_with fail
      go_ret
      exact ⟨_, rfl, HO.out, HBR.out⟩
end Go.Proofs.YtnhpoefhcngoaaaDoor
