/-
  READING THE TEXT OF AN OTHER MAP: what the program and the model make of a text, and that both read such a map's text back (mathematics).
-/
import Derived.Test.YtgobjobppajkbaaDoorOtT
import Derived.Test.YtgobjobppajkbaaDoorSpl
namespace Go.Proofs.YtgobjobppajkbaaDoor
open Go.RowKit
set_option linter.unusedVariables false

/-- What the model's l1Num tells, -1 included. -/
def dgN (x : Int) : List UInt8 := if x < 0 then [47] else dgO x
/-- The text that the model tells of one part. -/
def ptV (t p o : Int) : List UInt8 := dgN t ++ [110] ++ sgO p ++ dgO (absO p) ++ [47] ++ dgN o
theorem dgN_pos {x : Int} (h : 0 ≤ x) : dgN x = dgO x := by rw [dgN, if_neg (by omega)]
theorem dgN_len {x : Int} (h : x ≤ 999999) : (dgN x).length ≤ 6 := by
  unfold dgN
  split
  · simp
  · exact dd_len 5 x.toNat (by omega)
theorem ptV_in {q : Pt} (h : ptIn q = true) : ptV q.1 q.2.1 q.2.2 = ptX q := by
  have := ptIn_iff.1 h
  rw [ptV, dgN_pos (by omega), dgN_pos (by omega)]; rfl
theorem ptV_len {t p o : Int} (ht : t ≤ 999999) (hp1 : -20 ≤ p) (hp2 : p ≤ 20) (ho : o ≤ 999999) : (ptV t p o).length ≤ 17 := by
  have h1 := dgN_len ht
  have h2 := dgN_len ho
  have h3 : (dgO (absO p)).length ≤ 2 := dgO_len (by unfold absO; split <;> omega)
  have h4 : (sgO p).length = 1 := by unfold sgO; split <;> rfl
  simp only [ptV, List.length_append, List.length_cons, List.length_nil]
  omega
/-- The first of k numbers, from a on, with which the part has this text; the last one if none has. -/
def plF (t o : Int) (x : List UInt8) : Nat → Int → Int
  | 0, a => a - 1
  | k + 1, a => if ptV t a o = x then a else plF t o x k (a + 1)
theorem plF_at {t o : Int} {x : List UInt8} : ∀ (k : Nat) (a p : Int), a ≤ p → p < a + k → ptV t p o = x → (∀ p', a ≤ p' → p' < p → ptV t p' o ≠ x) → plF t o x k a = p
  | 0, a, p, h1, h2, _, _ => by simp at h2; omega
  | k + 1, a, p, h1, h2, hx, hu => by
    rw [plF]
    by_cases e : a = p
    · subst e; rw [if_pos hx]
    · rw [if_neg (hu a (Int.le_refl _) (by omega))]
      exact plF_at k (a + 1) p (by omega) (by push_cast at h2; omega) hx (fun p' h3 h4 => hu p' (by omega) h4)
set_option maxRecDepth 100000 in
theorem all41 : ∀ P : Fin 41, numL (sgO ((P.val : Int) - 20) ++ dgO (absO ((P.val : Int) - 20))) = (P.val : Int) - 20 ∧ (110 : UInt8) ∉ sgO ((P.val : Int) - 20) ++ dgO (absO ((P.val : Int) - 20)) ∧ (47 : UInt8) ∉ sgO ((P.val : Int) - 20) ++ dgO (absO ((P.val : Int) - 20)) ∧ (59 : UInt8) ∉ sgO ((P.val : Int) - 20) ++ dgO (absO ((P.val : Int) - 20)) := by decide +kernel
theorem sg_all {p : Int} (h1 : -20 ≤ p) (h2 : p ≤ 20) : numL (sgO p ++ dgO (absO p)) = p ∧ (110 : UInt8) ∉ sgO p ++ dgO (absO p) ∧ (47 : UInt8) ∉ sgO p ++ dgO (absO p) ∧ (59 : UInt8) ∉ sgO p ++ dgO (absO p) := by
  obtain ⟨P, hP, rfl⟩ : ∃ P : Nat, P < 41 ∧ p = (P : Int) - 20 := ⟨(p + 20).toNat, by omega, by omega⟩
  exact all41 ⟨P, hP⟩
theorem ptV_inj {t o p p' : Int} (h1 : -20 ≤ p) (h2 : p ≤ 20) (h3 : -20 ≤ p') (h4 : p' ≤ 20) (h : ptV t p o = ptV t p' o) : p = p' := by
  have e : ∀ q, ptV t q o = dgN t ++ [110] ++ ((sgO q ++ dgO (absO q)) ++ ([47] ++ dgN o)) := fun q => by simp [ptV]
  rw [e, e] at h
  have h5 := List.append_cancel_right (List.append_cancel_left h)
  rw [← (sg_all h1 h2).1, h5, (sg_all h3 h4).1]
theorem dgO_free (x : Int) {c : UInt8} (h : c.toNat < 48 ∨ 57 < c.toNat) : c ∉ dgO x := dd_free _ h
/-- What the program reads of a piece; of a text. -/
def opC (x : List UInt8) : Pt := (numL (cu1 110 x), numL (cu1 47 (cu2 110 x)), numL (cu2 47 (cu2 110 x)))
def opL (l : List UInt8) : List Pt := (spl 59 l).map opC
/-- What the model reads. -/
def oqC (x : List UInt8) : Pt := (rdL ((spl 110 x).getD 0 []), plF (rdL ((spl 110 x).getD 0 [])) (rdL ((spl 47 x).getD 1 [])) x 41 (-20), rdL ((spl 47 x).getD 1 []))
def oqO (x : List UInt8) : Bool := ((spl 110 x).length == 2) && ((spl 47 x).length == 2)
def oqT (ps : List (List UInt8)) : Bool := ps.all oqO
def oqL (l : List UInt8) : List Pt := (spl 59 l).map oqC
theorem ptX_back {q : Pt} (h : ptIn q = true) : opC (ptX q) = q ∧ oqC (ptX q) = q ∧ oqO (ptX q) = true ∧ (59 : UInt8) ∉ ptX q := by
  obtain ⟨a0, a1, b0, b1, c0, c1⟩ := ptIn_iff.1 h
  obtain ⟨s1, s2, s3, s4⟩ := sg_all b0 b1
  have e1 : ptX q = dgO q.1 ++ [110] ++ ((sgO q.2.1 ++ dgO (absO q.2.1)) ++ [47] ++ dgO q.2.2) := by simp [ptX]
  have e2 : ptX q = (dgO q.1 ++ [110] ++ (sgO q.2.1 ++ dgO (absO q.2.1))) ++ [47] ++ dgO q.2.2 := by simp [ptX]
  have n1 : numL (dgO q.1) = q.1 := by have := numL_dig q.1.toNat (by omega); rw [dgO, this]; omega
  have n2 : numL (dgO q.2.2) = q.2.2 := by have := numL_dig q.2.2.toNat (by omega); rw [dgO, this]; omega
  have r1 : rdL (dgO q.1) = q.1 := by have := rdL_dig (n := q.1.toNat) (by omega); rw [dgO, this]; omega
  have r2 : rdL (dgO q.2.2) = q.2.2 := by have := rdL_dig (n := q.2.2.toNat) (by omega); rw [dgO, this]; omega
  have f1 : (110 : UInt8) ∉ dgO q.1 := dgO_free _ (by decide)
  have f2 : (47 : UInt8) ∉ dgO q.1 := dgO_free _ (by decide)
  have f3 : (110 : UInt8) ∉ dgO q.2.2 := dgO_free _ (by decide)
  have f4 : (47 : UInt8) ∉ dgO q.2.2 := dgO_free _ (by decide)
  have f5 : (59 : UInt8) ∉ dgO q.1 := dgO_free _ (by decide)
  have f6 : (59 : UInt8) ∉ dgO q.2.2 := dgO_free _ (by decide)
  obtain ⟨k1, k2⟩ := cu_app (c := 110) (p := dgO q.1) ((sgO q.2.1 ++ dgO (absO q.2.1)) ++ [47] ++ dgO q.2.2) f1
  obtain ⟨k3, k4⟩ := cu_app (c := 47) (p := sgO q.2.1 ++ dgO (absO q.2.1)) (dgO q.2.2) s3
  have hs1 : spl 110 (ptX q) = [dgO q.1, (sgO q.2.1 ++ dgO (absO q.2.1)) ++ [47] ++ dgO q.2.2] := by
    rw [e1, spl_app _ f1, spl_free]
    intro hm
    rcases List.mem_append.1 hm with hm | hm
    · rcases List.mem_append.1 hm with hm | hm
      · exact s2 hm
      · exact absurd hm (by decide)
    · exact f3 hm
  have hs2 : spl 47 (ptX q) = [dgO q.1 ++ [110] ++ (sgO q.2.1 ++ dgO (absO q.2.1)), dgO q.2.2] := by
    rw [e2, spl_app, spl_free f4]
    intro hm
    rcases List.mem_append.1 hm with hm | hm
    · rcases List.mem_append.1 hm with hm | hm
      · exact f2 hm
      · exact absurd hm (by decide)
    · exact s3 hm
  refine ⟨?_, ?_, by rw [oqO, hs1, hs2]; rfl, ?_⟩
  · rw [opC, e1, k1, k2, k3, k4, n1, n2, s1]
  · have d1 : ((spl 110 (ptX q)).getD 0 []) = dgO q.1 := by rw [hs1]; rfl
    have d2 : ((spl 47 (ptX q)).getD 1 []) = dgO q.2.2 := by rw [hs2]; rfl
    rw [oqC, d1, d2, r1, r2, plF_at 41 (-20) q.2.1 b0 (by omega) (ptV_in h) (fun p' h3 h4 e => by
      have := ptV_inj (t := q.1) (o := q.2.2) h3 (by omega) b0 b1 (e.trans (ptV_in h).symm)
      omega)]
  · rw [e1]
    intro hm
    rcases List.mem_append.1 hm with hm | hm
    · rcases List.mem_append.1 hm with hm | hm
      · exact f5 hm
      · exact absurd hm (by decide)
    · rcases List.mem_append.1 hm with hm | hm
      · rcases List.mem_append.1 hm with hm | hm
        · exact s4 hm
        · exact absurd hm (by decide)
      · exact f6 hm
theorem range_ptX (ps : List Pt) : (List.range ps.length).map (fun i => ptX (ps.getD i pt0)) = ps.map ptX := by
  refine List.ext_getElem (by simp) (fun i h1 h2 => ?_)
  have hi : i < ps.length := by simpa using h2
  rw [List.getElem_map, List.getElem_range, List.getElem_map, List.getD_eq_getElem?_getD, List.getElem?_eq_getElem hi]
  rfl
def opB (l : List UInt8) : Bool := omB (opL l) && decide (otX (opL l) = byt l)
def oqF (l : List UInt8) : Bool := decide (l.length ≤ 120) && oqT (spl 59 l)
def oqB (l : List UInt8) : Bool := oqF l && (omB (oqL l) && decide (otX (oqL l) = byt l))
theorem byt_injO {a b : List UInt8} (h : byt a = byt b) : a = b := by simpa [byt] using h
theorem om_back {ps : List Pt} {l : List UInt8} (h : omB ps = true) (hl : otX ps = byt l) : opL l = ps ∧ oqL l = ps ∧ oqF l = true := by
  rw [otX, if_pos h] at hl
  have hl := (byt_injO hl).symm
  obtain ⟨k1, k2⟩ := omB_len h
  have hin : ∀ q ∈ ps, ptIn q = true := by
    intro q hq
    obtain ⟨i, hi, rfl⟩ := List.mem_iff_getElem.1 hq
    have := (ptOk_iff.1 (omB_at h hi)).1
    rwa [List.getD_eq_getElem?_getD, List.getElem?_eq_getElem hi] at this
  have hlen : l.length ≤ 120 := by
    have := otT_len (ps := ps) (K := ps.length) (fun i hi => (ptOk_iff.1 (omB_at h hi)).1) ps.length (Nat.le_refl _)
    rw [hl]; omega
  have e : l = Lib.join (ps.map ptX) [59] := by rw [hl, otT, range_ptX]
  have hs : spl 59 l = ps.map ptX := by
    rw [e]
    refine spl_join (by intro e; have := congrArg List.length e; simp at this; subst this; simp at k1) (fun p hp => ?_)
    obtain ⟨x, hx, rfl⟩ := List.mem_map.1 hp
    exact (ptX_back (hin x hx)).2.2.2
  refine ⟨?_, ?_, ?_⟩
  · rw [opL, hs, List.map_map]
    conv => rhs; rw [← List.map_id ps]
    exact List.map_congr_left (fun x hx => (ptX_back (hin x hx)).1)
  · rw [oqL, hs, List.map_map]
    conv => rhs; rw [← List.map_id ps]
    exact List.map_congr_left (fun x hx => (ptX_back (hin x hx)).2.1)
  · rw [oqF, decide_eq_true hlen, hs, oqT, List.all_map, Bool.true_and, List.all_eq_true]
    intro x hx
    exact (ptX_back (hin x hx)).2.2.1
/-- Both take the same texts, and read the same. -/
theorem op_same (l : List UInt8) : opB l = oqB l ∧ (oqB l = true → opL l = oqL l) := by
  have fwd : opB l = true → oqB l = true ∧ opL l = oqL l := by
    intro h
    rw [opB, Bool.and_eq_true, decide_eq_true_eq] at h
    obtain ⟨_, k2, k3⟩ := om_back h.1 h.2
    refine ⟨?_, k2.symm⟩
    rw [oqB, k3, k2, h.1, h.2]
    simp
  have bwd : oqB l = true → opB l = true := by
    intro h
    rw [oqB, Bool.and_eq_true, Bool.and_eq_true, decide_eq_true_eq] at h
    obtain ⟨k1, _, _⟩ := om_back h.2.1 h.2.2
    rw [opB, k1, h.2.1, h.2.2]
    simp
  refine ⟨?_, fun h => (fwd (bwd h)).2⟩
  cases e : oqB l with
  | true => exact bwd e
  | false =>
    cases e2 : opB l with
    | false => rfl
    | true => rw [(fwd e2).1] at e; cases e
end Go.Proofs.YtgobjobppajkbaaDoor
