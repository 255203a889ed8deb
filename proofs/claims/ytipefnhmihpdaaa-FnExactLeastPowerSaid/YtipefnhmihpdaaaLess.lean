/-
  'woLess' of the model: a power's bits in a list.
-/
import Derived.Test.YtipefnhmihpdaaaLeaf
import Derived.Test.YtipefnhmihpdaaaLessM
import Derived.Test.YtipefnhmihpdaaaIntRows
import Derived.OwnWalk
import Derived.WalkLawsBesides
import Derived.RegionTactic
import Derived.ChangeAlike
import Derived.Outline
namespace Go.Proofs.Ytipefnhmihpdaaa
open Go.RowKit
set_option linter.unusedVariables false

theorem info3l : (Try.prog.info? 3).map (fun i => (i.zero, i.size, i.bytes)) = some (some (.int .i64 0), 1, 8) := by kernel_rfl
theorem wrap_sums {c d T S : Nat} (hS : S = c + d * T) (h : S ≤ 18) :
    wrap64 ((d : Int) * (T : Int)) = (d : Int) * (T : Int) ∧ wrap64 ((c : Int) + (d : Int) * (T : Int)) = (S : Int) ∧ IntKind.i64.wrap ((d : Int) * (T : Int)) = (d : Int) * (T : Int) ∧ IntKind.i64.wrap ((c : Int) + (d : Int) * (T : Int)) = (S : Int) := by
  have e : (d : Int) * (T : Int) = ((d * T : Nat) : Int) := (Int.natCast_mul d T).symm
  rw [e]
  have h1 : ∀ n : Nat, n ≤ 18 → wrap64 (n : Int) = (n : Int) := fun n hn => by unfold wrap64; omega
  have h2 : ∀ n : Nat, n ≤ 18 → IntKind.i64.wrap (n : Int) = (n : Int) := fun n hn => by rw [IntKind.wrap_i64]; omega
  have e2 : (c : Int) + ((d * T : Nat) : Int) = (S : Int) := by omega
  rw [e2]
  have hd : d * T ≤ 18 := by omega
  exact ⟨h1 _ hd, h1 _ h, h2 _ hd, h2 _ h⟩
theorem ownsRow_pos {B : Nat} {e : TypeId} {v : Value} {n : Nat} {xs : List Value} {w : World} (h : w.ownsRow B e 1 v n xs) (hn : 0 < n) : ∃ g cap, v = .slice (some ⟨g, 0, none⟩) n cap ∧ B ≤ g ∧ g < w.heap.size ∧ n ≤ cap ∧ cap ≤ maxLen := by
  rcases h.2 with ⟨_, h0⟩ | ⟨g, cap, cur, rfl, hB, hg, h1, h2, _⟩
  · omega
  · exact ⟨g, cap, rfl, hB, (Array.getElem?_eq_some_iff.1 hg).1, h1, h2⟩

set_option maxRecDepth 100000 in
set_option maxHeartbeats 8000000 in
theorem woLess_any (T : Nat) (p : Int) (K : Nat) (len : Int) (w : World) (t1 : 1 ≤ T) (t9 : T ≤ 9) (hK : K ≤ 20) (l0 : 0 ≤ len) (l1 : len ≤ 100) :
    Calls Try.prog 24 #[.agg #[.int .i64 (T : Int), .int .i64 p], .int .i64 (K : Int), .int .i64 len] w fun e w' => e = .returned (.bool (decide ((Lib.bitLen (T ^ K) : Int) ≤ len))) ∧ Below w.heap.size w w' := by
  have hK1 : (K : Int) ≤ 20 := by omega
  have ht1 : (1 : Int) ≤ (T : Int) := by omega
  have ht9 : (T : Int) ≤ 9 := by omega
  obtain ⟨i0, hi, hi0, hi1, hi2⟩ := info_parts info3l
  go_enter Try.func24, Try.ntmps24
  go_wp2_with fail
  have hown0 : ((w.alloc (Obj.cells #[Value.int IntKind.i64 (T : Int), Value.int IntKind.i64 p] 29)).alloc (Obj.cells #[Value.int IntKind.i64 1] 3)).ownsRow (w.heap.size + 1) 3 1 (.slice (some ⟨w.heap.size + 1, 0, none⟩) 1 1) 1 [.int .i64 1] := by
    have := World.ownsRow_lit (base := w.heap.size + 1) (e := 3) (size := 1) (w.alloc (Obj.cells #[Value.int IntKind.i64 (T : Int), Value.int IntKind.i64 p] 29)) #[Value.int IntKind.i64 1] 1 (by simp) (by unfold maxLen; omega) (by simp)
    simpa using this
  have HOWN := Lib.hid hown0
  clear hown0
  go_loopw [1, 7] (fun x v wr => ∃ j : Nat, j ≤ K ∧ x = .int .i64 ((K : Int) - j) ∧ wr.ownsRow (w.heap.size + 1) 3 1 v (Lib.bitLen (T ^ j)) ((dgL (T ^ j) (Lib.bitLen (T ^ j))).map (Value.int .i64)) ∧ wr.cell? ⟨w.heap.size, 0, none⟩ = some (.int .i64 (T : Int)) ∧ w.heap.size < wr.heap.size ∧ Below w.heap.size w wr) (fun x _ _ => (intOf x).toNat)
  case atStart =>
    refine ⟨0, by omega, by simp, ?_, by go_simp, by simp; omega, ((Below.refl _ w).alloc (Nat.le_refl _) _).alloc (by simp) _⟩
    have e : Lib.bitLen (T ^ 0) = 1 := by rw [Nat.pow_zero]; decide
    rw [e, Nat.pow_zero]
    exact HOWN.out
  case round =>
    obtain ⟨j, hj, rfl, hown, c0, hz, hbr⟩ := hrel
    by_cases hlt : j < K
    · have hgt : 0 < (K : Int) - j := by omega
      have hp := nat_pow20 t1 t9 (j := j) (by omega)
      have hp2 := nat_pow20 t1 t9 (j := j + 1) (by omega)
      have hPT : T ^ (j + 1) = T ^ j * T := Nat.pow_succ ..
      rw [hPT] at hp2
      have HPT := Lib.hid hPT
      obtain ⟨P, hP⟩ : ∃ P, P = T ^ j := ⟨_, rfl⟩
      rw [← hP] at hp hp2 HPT hown
      obtain ⟨k, hk⟩ : ∃ k, k = Lib.bitLen P := ⟨_, rfl⟩
      have hkpos : 0 < k := by
        rcases Nat.eq_zero_or_pos k with h | h
        · have := (bitLen_le_iff hp.2 (k := 0)).1 (by omega); omega
        · exact h
      have hk64 : k ≤ 64 := by rw [hk]; exact bitLen_64 hp.2
      have hPk : P < 2 ^ k := by rw [hk]; exact bitLen_lt hp.2
      have hkm : k ≤ Lib.bitLen (P * T) := by rw [hk]; exact bitLen_mono (Nat.le_mul_of_pos_right _ (by omega)) hp2.2
      rw [← hk] at hown
      obtain ⟨g, cap, rfl, hg1, hg2, hc1, hc2⟩ := ownsRow_pos hown hkpos
      obtain ⟨wo, rfl⟩ : ∃ wo : World, wo = wr := ⟨_, rfl⟩
      have HP64 := Lib.hid hp2.2
      have HPK := Lib.hid hPk
      have HKM := Lib.hid hkm
      have HO := Lib.hid hown
      have HBR := Lib.hid hbr
      have hk64' : (k : Int) ≤ 64 := by omega
      have hcapi : (k : Int) ≤ (cap : Int) := by omega
      clear hp hp2 hPT hP hk hPk hkm hown hbr
      go_wp2_with fail
      go_loopw [8, 17] (fun c x wr => ∃ i : Nat, i ≤ k ∧ x = .int .i64 i ∧ c = .int .i64 (car P T i : Nat) ∧ wr.ownsRow (w.heap.size + 1) 3 1 (.slice (some ⟨g, 0, none⟩) k cap) k ((dgM P (P * T) i k).map (Value.int .i64)) ∧ wr.cell? ⟨w.heap.size, 0, none⟩ = some (.int .i64 (T : Int)) ∧ w.heap.size < wr.heap.size ∧ Below w.heap.size w wr) (fun _ x _ => k - (intOf x).toNat)
      case atStart => exact ⟨0, by omega, rfl, by rw [car_zero]; rfl, by rw [dgM_zero]; exact HO.out, c0, hz, HBR.out⟩
      case round =>
        clear c0 hz
        obtain ⟨i, hik, rfl, rfl, hown, c0, hz, hbr⟩ := hrel
        have HOI := Lib.hid hown
        have HBI := Lib.hid hbr
        clear hown hbr
        by_cases hi' : i < k
        · have hiki : (i : Int) < (k : Int) := by omega
          have qd : wr.cell? ⟨g, i, none⟩ = some (.int .i64 (dig2 P i : Nat)) := by
            rw [World.ownsRow.cellAt HOI.out i (by omega), List.getElem?_map, dgM_at hi']; rfl
          have qf : wr.frozen? ⟨g, i, none⟩ = false := World.ownsRow.frozenAt HOI.out i
          have HD := Lib.hid (car_dig P T i)
          have HN := Lib.hid (car_next P T i)
          have hcl := car_lt (P := P) (i := i) t1
          have hdl := dig2_le P i
          obtain ⟨c, hc⟩ : ∃ c, c = car P T i := ⟨_, rfl⟩
          obtain ⟨d, hd⟩ : ∃ d, d = dig2 P i := ⟨_, rfl⟩
          rw [← hc, ← hd] at HD HN
          rw [← hc] at hcl ⊢
          rw [← hd] at hdl qd
          obtain ⟨S, hS⟩ : ∃ S, S = c + d * T := ⟨_, rfl⟩
          rw [← hS] at HD HN
          have hdT : d * T ≤ 9 := by
            have := Nat.mul_le_mul hdl t9; omega
          have hS1 : S ≤ 18 := by omega
          have hSi : (S : Int) ≤ 18 := by omega
          have hwr := wrap_sums hS hS1
          clear hc hd hS hdT
          obtain ⟨hw1, hw2, hw3, hw4⟩ := hwr
          go_wp2_with fail
          go_region
          clear hw1 hw2 hw3 hw4
          go_wp2_with fail
          have hst := World.ownsRow.stored HOI.out i (.int .i64 ((S : Int) % 2))
          have hset := dgM_set (x := P) (y := P * T) (i := i) (k := k)
          rw [← HD.out] at hset
          have hset2 : ((dgM P (P * T) i k).map (Value.int .i64)).set i (.int .i64 ((S : Int) % 2)) = (dgM P (P * T) (i + 1) k).map (Value.int .i64) := hset
          rw [hset2] at hst
          have hneg : w.heap.size ≠ g := by omega
          have hle : w.heap.size ≤ g := by omega
          refine ⟨⟨i + 1, hi', by go_num, by rw [← HN.out]; rfl, ?_, ?_, ?_, ?_⟩, by simp [intOf]; omega⟩
          · exact World.ownsRow.drew hst.1
          · go_simp
          · simpa using hz
          · exact (HBI.out.setCell (p := ⟨g, i, none⟩) hle _).drew
        · obtain rfl : i = k := by omega
          have hii : ¬ ((i : Int) < (i : Int)) := by omega
          have hOf := HOI.out
          rw [dgM_full] at hOf
          have HOF := Lib.hid hOf
          have hcar := car_shr (P := P) (t := T) HPK.out
          have hcl := car_lt (P := P) (i := i) t1
          rw [hcar] at hcl ⊢
          obtain ⟨Q, hQ⟩ : ∃ Q, Q = P * T := ⟨_, rfl⟩
          rw [← hQ] at hcl HP64 HKM HPT HOF ⊢
          have hc9 : shr2 Q i ≤ 9 := by omega
          obtain ⟨wo2, rfl⟩ : ∃ wo2 : World, wo2 = wr := ⟨_, rfl⟩
          clear hOf hcar hQ hcl HOI
          go_wp2_with fail
          go_loopw [7, 8] (fun v c wr => ∃ n : Nat, n ≤ Lib.bitLen Q ∧ c = .int .i64 (shr2 Q n : Nat) ∧ shr2 Q n ≤ 9 ∧ wr.ownsRow (w.heap.size + 1) 3 1 v n ((dgL Q n).map (Value.int .i64)) ∧ wr.cell? ⟨w.heap.size, 0, none⟩ = some (.int .i64 (T : Int)) ∧ w.heap.size < wr.heap.size ∧ Below w.heap.size w wr) (fun _ c _ => (intOf c).toNat)
          case atStart => exact ⟨i, HKM.out, rfl, hc9, HOF.out, c0, hz, HBI.out⟩
          case round =>
            clear c0 hz hc9
            obtain ⟨n, hn, rfl, hc9, hown, c0, hz, hbr⟩ := hrel
            have HON := Lib.hid hown
            have HBN := Lib.hid hbr
            have HN := Lib.hid hn
            have hn64 : n ≤ 64 := Nat.le_trans hn (bitLen_64 HP64.out)
            clear hown hbr hn
            by_cases hpos : 0 < shr2 Q n
            · have HM := Lib.hid (bits_more HP64.out HN.out hpos)
              have HSN := Lib.hid (shr2_next Q n)
              have HDG := Lib.hid (shr2_dig Q n)
              have HDL := Lib.hid (dgL_succ Q n)
              obtain ⟨c, hc⟩ : ∃ c, c = shr2 Q n := ⟨_, rfl⟩
              rw [← hc] at hpos hc9 HSN HDG ⊢
              have hpos2 : (0 : Int) < (c : Int) := by omega
              have hc9i : (c : Int) ≤ 9 := by omega
              have hd : decide (0 < c) = true := by simpa using hpos
              have hn3 : n + 1 ≤ maxLen := by unfold maxLen; omega
              clear hc
              go_wp2_with (at_builtin; refine wpList_append_own _ rfl _ _ 46 rfl (w.heap.size + 1) 3 i0 (.int .i64 0) 1 8 Try.underlying46 hi hi0 hi1 hi2 rfl (by decide) _ _ _ rfl (HON.out.alloc _) ⟨wr.heap.size, 0, none⟩ 1 1 [.int .i64 ((c : Int) % 2)] rfl rfl ?c1 ?c2 ?c3 ?c4 ?c5 ?_; rotate_right; intro v' w4 hown4 hgrow _)
              case c1 => exact fun j u hu => new_cell _ _ _ hu
              case c2 => simp [Value.oneCell']
              case c3 => exact hn3
              case c4 => omega
              case c5 => simp; omega
              have hbg : Below (w.heap.size + 1) wr w4 := ((Below.refl (w.heap.size + 1) wr).alloc (by omega) _).grown hgrow (by simp; omega) (fun k e => (HON.out.lt k e).1)
              refine ⟨⟨n + 1, HM.out, by rw [← HSN.out]; rfl, by rw [← HSN.out]; omega, ?_, (hbg.cell (p := ⟨w.heap.size, 0, none⟩) (Nat.lt_succ_self _)).trans c0, Nat.lt_of_lt_of_le hz hbg.size, HBN.out.trans (hbg.mono (by omega))⟩, by simp [intOf]; omega⟩
              rw [HDL.out, List.map_append, ← HDG.out]
              exact hown4
            · have HM := Lib.hid (bits_done HP64.out HN.out hpos)
              obtain ⟨c, hc⟩ : ∃ c, c = shr2 Q n := ⟨_, rfl⟩
              rw [← hc] at hpos ⊢
              have hc0 : c = 0 := by omega
              subst hc0
              clear hc hpos hc9
              go_wp2_with fail
              refine ⟨⟨j + 1, by omega, by first | rfl | (congr 1; omega), ?_, c0, hz, HBN.out⟩, by simp [intOf]; omega⟩
              rw [HPT.out, ← HM.out]
              exact HON.out
    · obtain rfl : j = K := by omega
      have hgt : ¬ (0 < (j : Int) - j) := by omega
      have hpos : 0 < Lib.bitLen (T ^ j) := by
        have hp := nat_pow20 t1 t9 hK
        rcases Nat.eq_zero_or_pos (Lib.bitLen (T ^ j)) with h | h
        · have := (bitLen_le_iff hp.2 (k := 0)).1 (by omega); omega
        · exact h
      obtain ⟨g, cap, rfl, _⟩ := ownsRow_pos hown hpos
      have HBL : Hid (Lib.bitLen (T ^ j) = Lib.bitLen (T ^ j)) := Lib.hid rfl
      obtain ⟨b, hb⟩ : ∃ b, b = Lib.bitLen (T ^ j) := ⟨_, rfl⟩
      rw [← hb]
      have HB := Lib.hid hb
      clear hown c0 hpos hb HBL
      go_wp2_with fail
      go_ret
      exact ⟨ret_bool (by rw [HB.out]), hbr⟩
end Go.Proofs.Ytipefnhmihpdaaa
