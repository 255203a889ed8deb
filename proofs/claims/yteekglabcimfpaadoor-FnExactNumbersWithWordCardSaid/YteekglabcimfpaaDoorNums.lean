/-
  'NumbersWithWord' of both.
-/
import Derived.Test.YteekglabcimfpaaDoorWordsK
import Derived.Test.YteekglabcimfpaaDoorLists
import Derived.OwnWalk
import Derived.WalkLawsBesides
namespace Go.Proofs.YteekglabcimfpaaDoor
open Go.RowKit
set_option linter.unusedVariables false

/-- The numbers a, a + d, a + 2 d, ..: the one behind j steps. -/
def nsA (a d : Int) (j : Nat) : Int := a + j * d
theorem nsA_zero (a d : Int) : nsA a d 0 = a := by simp [nsA]
theorem nsA_succ (a d : Int) (j : Nat) : nsA a d (j + 1) = nsA a d j + d := by
  unfold nsA
  rw [show ((j + 1 : Nat) : Int) = (j : Int) + 1 by omega, Int.add_mul]
  omega
def nsL (a d : Int) (k : Nat) : List Int := (List.range k).map fun (i : Nat) => nsA a d i
theorem nsL_succ (a d : Int) (k : Nat) : nsL a d (k + 1) = nsL a d k ++ [nsA a d k] := by simp [nsL, List.range_succ]
theorem nsL_length (a d : Int) (k : Nat) : (nsL a d k).length = k := by simp [nsL]
/-- Are the first k numbers? -/
def nsB (a d : Int) : Nat → Bool
  | 0 => true
  | k + 1 => nsB a d k && numB (nsA a d k)
theorem nsB_succ (a d : Int) (k : Nat) : nsB a d (k + 1) = (nsB a d k && numB (nsA a d k)) := rfl
theorem nsB_no {a d : Int} {j k : Nat} (hj : j < k) (h : numB (nsA a d j) = false) : nsB a d k = false := by
  induction k with
  | zero => omega
  | succ k ih =>
    rw [nsB_succ]
    by_cases e : j = k
    · subst e; rw [h, Bool.and_false]
    · rw [ih (by omega), Bool.false_and]
/-- The first j of k numbers, and zeros. -/
def nsF (a d : Int) (j k : Nat) : List Int := (List.range k).map fun (i : Nat) => if i < j then nsA a d i else 0
theorem nsF_length (a d : Int) (j k : Nat) : (nsF a d j k).length = k := by simp [nsF]
theorem nsF_zero (a d : Int) (k : Nat) : nsF a d 0 k = List.replicate k 0 := by
  apply List.ext_getElem (by simp [nsF])
  intro i h1 h2
  simp [nsF]
theorem nsF_full (a d : Int) (k : Nat) : nsF a d k k = nsL a d k := by
  apply List.ext_getElem (by simp [nsF, nsL])
  intro i h1 h2
  have : i < k := by simpa [nsF] using h1
  simp [nsF, nsL, this]
theorem nsF_set (a d : Int) (j k : Nat) : ((nsF a d j k).map (Value.int .i64)).set j (.int .i64 (nsA a d j)) = (nsF a d (j + 1) k).map (Value.int .i64) := by
  apply List.ext_getElem (by simp [nsF])
  intro i h1 h2
  rw [List.getElem_set]
  by_cases e : j = i
  · subst e; simp [nsF]
  · have : (i < j) = (i < j + 1) := by simp only [eq_iff_iff]; omega
    simp [nsF, e, this]
/-- What NumbersWithWord is asked. -/
def askNW (t p : Int) (s : ByteArray) (from' k : Int) : Bool := askW t p s && (numB from' && inB k 0 50)
def nwA (t p : Int) (s : ByteArray) (from' : Int) : Int := from' + ((knW t p s).1 - from') % 2 ^ s.size
def nwB (t p : Int) (s : ByteArray) (from' k : Int) : Bool := askNW t p s from' k && nsB (nwA t p s from') (2 ^ s.size) k.toNat
def nwL (t p : Int) (s : ByteArray) (from' k : Int) : List Int := if nwB t p s from' k = true then nsL (nwA t p s from') (2 ^ s.size) k.toNat else []
theorem nwL_len (t p : Int) (s : ByteArray) (from' k : Int) : (nwL t p s from' k).length ≤ 1000000000000 := by
  unfold nwL
  split
  · rename_i h
    simp only [nwB, askNW, inB, Bool.and_eq_true, decide_eq_true_eq] at h
    rw [nsL_length]; omega
  · simp

theorem info3n : (Tryd.prog.info? 3).map (fun i => (i.zero, i.size, i.bytes)) = some (some (.int .i64 0), 1, 8) := by kernel_rfl
theorem ret_none {xs : List Int} {ok : Bool} {w w' : World} (hx : xs = []) (ho : ok = false) (hb : Below w.heap.size w w') : RetInts xs ok w (.returned (.tuple #[.slice none 0 0, .bool false])) w' := by
  subst hx ho
  exact ⟨_, rfl, intsAt_nil _ _, hb⟩
theorem ret_some {xs : List Int} {ok : Bool} {w w' : World} {v : Value} (hr : IntsAt w' w.heap.size v xs) (ho : ok = true) (hb : Below w.heap.size w w') : RetInts xs ok w (.returned (.tuple #[v, .bool true])) w' := by
  subst ho
  exact ⟨v, rfl, hr, hb⟩

set_option maxRecDepth 100000 in
set_option maxHeartbeats 4000000 in
theorem sNums_yes (t p : Int) (s : ByteArray) (from' : Int) (K : Nat) (w : World) (h : askNW t p s from' K = true) :
    Calls Tryd.prog 13 #[.agg #[.int .i64 t, .int .i64 p], .string s, .int .i64 from', .int .i64 (K : Int)] w (RetInts (nwL t p s from' K) (nwB t p s from' K) w) := by
  have HA := Lib.hid (fun w => woAsked_any t p s w)
  have HI := Lib.hid (fun w => mpIs_any from' w)
  have HC := Lib.hid (fun w => l1In_any (K : Int) 0 50 w)
  have hx := h
  simp only [askNW, Bool.and_eq_true] at hx
  obtain ⟨hc, hn, hk⟩ := hx
  have hK : K ≤ 50 := by simp [inB] at hk; omega
  have hK1 : (K : Int) ≤ 50 := by omega
  obtain ⟨hg, hw⟩ := askW_iff.1 hc
  have hz15 := (wordB_iff.1 hw).1
  have hz1 : (s.size : Int) ≤ 15 := by omega
  obtain ⟨pw1, pw0⟩ := pow2_le hz15
  obtain ⟨n1, n2⟩ := numB_iff.1 hn
  have sm := knW_small hc
  have HLN := Lib.hid (fun w => woLine_any t p s w hg hw)
  have hkn := knW_yes hc
  have HB0 : Hid (nwB t p s from' K = nsB (nwA t p s from') (2 ^ s.size) K) := Lib.hid (by rw [nwB, h]; rfl)
  have HL0 : Hid (nwB t p s from' K = true → nwL t p s from' K = nsL (nwA t p s from') (2 ^ s.size) K) := Lib.hid (fun h => by rw [nwL, if_pos h]; rfl)
  have HL1 : Hid (nwB t p s from' K = false → nwL t p s from' K = []) := Lib.hid (fun h => by rw [nwL, if_neg (by simp [h])])
  generalize nwB t p s from' K = ok at HB0 HL0 HL1 ⊢
  generalize nwL t p s from' K = xs at HL0 HL1 ⊢
  have hA : nwA t p s from' = from' + ((knW t p s).1 - from') % 2 ^ s.size := rfl
  generalize nwA t p s from' = A at HB0 HL0 hA
  rw [hkn] at hA sm
  generalize lin t p s.data.toList s.size = x at HLN hA sm
  obtain ⟨a, b, r⟩ := x
  obtain ⟨_, _, _, _, r0, r1, _⟩ := sm
  dsimp only at hA r0 r1
  have e0 := Int.emod_nonneg (r - from') (show (2 : Int) ^ s.size ≠ 0 by omega)
  have e1 := Int.emod_lt_of_pos (r - from') pw0
  have HMD := Lib.hid (fun w => l1Mod_any (r - from') ((2 : Int) ^ s.size) w (by omega) (by omega) (by omega) (by omega))
  generalize (r - from') % 2 ^ s.size = m at hA e0 e1 HMD
  subst hA
  rw [hc] at HA
  rw [hn] at HI
  rw [hk] at HC
  clear h hc hn hk hg hw hkn hz15
  obtain ⟨i0, hi, hi0, hi1, hi2⟩ := info_parts info3n
  go_enter Tryd.func13, Tryd.ntmps13
  go_wp2_with fail
  refine (HA.out _).mono ?_
  rintro e w1 ⟨rfl, hb1⟩
  obtain ⟨c0, c1, hz, hb⟩ := map_block hb1
  clear hb1
  go_wp2_with (first | (go_at_call 32; refine (HI.out _).mono ?_; rintro e w' ⟨rfl, rfl⟩) | (go_at_call 33; refine (HC.out _).mono ?_; rintro e w' ⟨rfl, rfl⟩))
  refine (HLN.out _).mono ?_
  rintro e w2 ⟨rfl, hb2⟩
  have HB2 := Lib.hid (hb.trans (hb2.mono (Nat.le_of_lt hz)))
  clear hb2 hb c0 c1
  go_wp2_with fail
  refine (HMD.out _).mono ?_
  rintro e w' ⟨rfl, rfl⟩
  go_wp2_with fail
  obtain ⟨A, hA⟩ : ∃ A, A = from' + m := ⟨_, rfl⟩
  rw [← hA] at HB0 HL0
  have a0 : from' ≤ A := by omega
  have a1 : A ≤ from' + 32768 := by omega
  go_loopw [3, 14, 15] (fun x y z wr => ∃ j : Nat, j ≤ K ∧ x = .int .i64 ((K : Int) - j) ∧ y = .int .i64 (nsA A (2 ^ s.size) j) ∧ nsB A (2 ^ s.size) j = true ∧ -2000000000000 ≤ nsA A (2 ^ s.size) j ∧ nsA A (2 ^ s.size) j ≤ 2000000000000 ∧ wr.ownsRow w.heap.size 3 1 z j ((nsL A (2 ^ s.size) j).map (Value.int .i64)) ∧ Below w.heap.size w wr) (fun x _ _ _ => (intOf x).toNat)
  case atStart => exact ⟨0, by omega, by simp, by rw [nsA_zero, hA], rfl, by rw [nsA_zero]; omega, by rw [nsA_zero]; omega, World.ownsRow_nil _ _ _ _, HB2.out⟩
  case round =>
    obtain ⟨j, hj, rfl, rfl, hall, v0, v1, hown, hbr⟩ := hrel
    have HALL := Lib.hid hall
    have HO := Lib.hid hown
    have HBR := Lib.hid hbr
    have hsz := hbr.size
    clear hall hown hbr
    by_cases hlt : j < K
    · have hgt : 0 < (K : Int) - j := by omega
      have HS := Lib.hid (nsA_succ A (2 ^ s.size) j)
      have HLS := Lib.hid (nsL_succ A (2 ^ s.size) j)
      have HBS := Lib.hid (nsB_succ A (2 ^ s.size) j)
      have HNO := Lib.hid (fun h => nsB_no (a := A) (d := 2 ^ s.size) hlt h)
      have HI2 := Lib.hid (fun w => mpIs_any (nsA A (2 ^ s.size) j) w)
      obtain ⟨v, hv⟩ : ∃ v, v = nsA A (2 ^ s.size) j := ⟨_, rfl⟩
      rw [← hv] at v0 v1 HS HLS HBS HNO HI2 ⊢
      clear hv
      cases hnv : numB v
      · rw [hnv] at HI2
        have HOK : Hid (ok = false) := Lib.hid (by rw [HB0.out]; exact HNO.out hnv)
        have HXS := Lib.hid (HL1.out HOK.out)
        clear hnv
        go_wp2_with (go_at_call 32; refine (HI2.out _).mono ?_; rintro e w' ⟨rfl, rfl⟩)
        go_ret2
        exact ret_none HXS.out HOK.out HBR.out
      · obtain ⟨v2, v3⟩ := numB_iff.1 hnv
        have HNV := Lib.hid hnv
        rw [hnv] at HI2
        have hj3 : j + 1 ≤ maxLen := by unfold maxLen; omega
        have hj4 : j ≤ 50 := by omega
        clear hnv
        go_wp2_with (first
          | (go_at_call 32; refine (HI2.out _).mono ?_; rintro e w' ⟨rfl, rfl⟩)
          | (at_builtin; refine wpList_append_own _ rfl _ _ 29 rfl w.heap.size 3 i0 (.int .i64 0) 1 8 Tryd.underlying29 hi hi0 hi1 hi2 rfl (by decide) _ _ _ rfl (HO.out.alloc _) ⟨wr.heap.size, 0, none⟩ 1 1 [.int .i64 v] rfl rfl ?c1 ?c2 ?c3 ?c4 ?c5 ?_; rotate_right; intro v' w3 hown3 hgrow _))
        case c1 => exact fun j u hu => new_cell _ _ _ hu
        case c2 => simp [Value.oneCell']
        case c3 => exact hj3
        case c4 => omega
        case c5 => simp; omega
        have hbg : Below w.heap.size wr w3 := ((Below.refl w.heap.size wr).alloc hsz _).grown hgrow (by simp; omega) (fun k e => (HO.out.lt k e).1)
        refine ⟨⟨j + 1, hlt, by first | rfl | (congr 1; omega), by rw [HS.out], by rw [HBS.out, HALL.out, HNV.out]; rfl, by rw [HS.out]; omega, by rw [HS.out]; omega, ?_, HBR.out.trans hbg⟩, by simp [intOf]; omega⟩
        rw [HLS.out, List.map_append]
        exact hown3
    · obtain rfl : j = K := by omega
      have hgt : ¬ (0 < (j : Int) - j) := by omega
      have HOK : Hid (ok = true) := Lib.hid (by rw [HB0.out]; exact HALL.out)
      have HXS := Lib.hid (HL0.out HOK.out)
      go_wp2_with fail
      go_ret2
      refine ret_some ?_ HOK.out HBR.out
      rw [HXS.out]
      unfold IntsAt
      rw [nsL_length]
      exact HO.out
end Go.Proofs.YteekglabcimfpaaDoor
