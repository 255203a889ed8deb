/-
  READING A PUZZLE'S TEXT: what the program and the model make of a text, and that both read a puzzle's text back (mathematics).
-/
import Derived.Test.YtgobjobppajkbaaDoorPtT
import Derived.Test.YtgobjobppajkbaaDoorReadMap
import Derived.Test.YtgobjobppajkbaaDoorPzN
namespace Go.Proofs.YtgobjobppajkbaaDoor
open Go.RowKit
set_option linter.unusedVariables false

set_option maxRecDepth 100000 in
theorem all50p : ∀ A : Fin 5, ∀ B : Fin 10, numOf (fst (byt (mtx (2 * (A.val : Int) + 1) (2 * (B.val : Int) - 9)))) = 2 * (A.val : Int) + 1 ∧ numOf (snd (byt (mtx (2 * (A.val : Int) + 1) (2 * (B.val : Int) - 9)))) = 2 * (B.val : Int) - 9 ∧ (58 : UInt8) ∉ mtx (2 * (A.val : Int) + 1) (2 * (B.val : Int) - 9) := by decide +kernel
theorem map_back {t p : Int} (h : goodB t p = true) : rdm (byt (mtx t p)) = (t, p) ∧ (58 : UInt8) ∉ mtx t p := by
  have k := goodB_iff.1 h
  obtain ⟨A, hA, rfl⟩ : ∃ A : Nat, A < 5 ∧ t = 2 * (A : Int) + 1 := ⟨((t - 1) / 2).toNat, by omega, by omega⟩
  obtain ⟨B, hB, rfl⟩ : ∃ B : Nat, B < 10 ∧ p = 2 * (B : Int) - 9 := ⟨((p + 9) / 2).toNat, by omega, by omega⟩
  obtain ⟨h1, h2, h3⟩ := all50p ⟨A, hA⟩ ⟨B, hB⟩
  simp only at h1 h2 h3
  exact ⟨by rw [rdm, h1, h2, rdp, if_pos ⟨h, rfl⟩], h3⟩

theorem dgP_free (x : Int) {c : UInt8} (h : c.toNat < 48 ∨ 57 < c.toNat) : c ∉ dgP x := dd_free _ h
theorem sgP_free (x : Int) {c : UInt8} (h : c.toNat < 48 ∨ 57 < c.toNat) (h2 : c ≠ 45) : c ∉ sgP x := by
  unfold sgP
  split
  · intro hm
    rcases List.mem_append.1 hm with hm | hm
    · exact h2 (by simpa using hm)
    · exact dgP_free _ h hm
  · exact dgP_free _ h
theorem numL_dgP {x : Int} (h0 : 0 ≤ x) (h : x ≤ 1000000000000) : numL (dgP x) = x := by
  have := numL_dig x.toNat (by omega)
  rw [dgP, this]; omega
theorem numL_sgP {x : Int} (h0 : -1000000000000 ≤ x) (h : x ≤ 1000000000000) : numL (sgP x) = x := by
  unfold sgP
  split
  · have := numL_neg (-x).toNat (by omega)
    rw [dgP, List.singleton_append, this]; omega
  · exact numL_dgP (by omega) h
theorem pnF_snoc (b : UInt8) (hb : 48 ≤ b.toNat ∧ b.toNat ≤ 57) : ∀ (l : List UInt8) (acc n : Int), pnF acc l = some n → pnF acc (l ++ [b]) = some (10 * n + ((b.toNat : Int) - 48))
  | [], acc, n, h => by
    simp only [pnF, Option.some.injEq] at h
    subst h
    simp [pnF, hb]
  | x :: l, acc, n, h => by
    rw [pnF] at h
    rw [List.cons_append, pnF]
    split at h
    · rename_i hx
      rw [if_pos hx]
      exact pnF_snoc b hb l _ n h
    · cases h
theorem pnF_dig (n : Nat) : pnF 0 (Lib.decDigits n) = some (n : Int) := by
  induction n using Nat.strongRecOn with
  | ind n ih =>
    by_cases h : n < 10
    · rw [dd_one h]
      have hd := dig_byte h
      rw [pnF, if_pos (by omega), pnF]
      congr 1
      omega
    · rw [dd_more h, pnF_snoc _ (by have := dig_byte (n := n % 10) (by omega); omega) _ _ _ (ih (n / 10) (by omega))]
      have hd := dig_byte (n := n % 10) (by omega)
      congr 1
      omega
theorem dd_head45 (n : Nat) : (Lib.decDigits n).head? ≠ some 45 := by
  intro h
  cases e : Lib.decDigits n with
  | nil => exact dd_ne _ e
  | cons x l =>
    rw [e] at h
    simp at h
    have := dd_mem n x (by rw [e]; simp)
    rw [h] at this
    simp at this
theorem pnL_sgP {x : Int} (h0 : -1000000000000 ≤ x) (h : x ≤ 1000000000000) : pnL (sgP x) = x := by
  have hl := sgP_len h0 h
  have hpos : 1 ≤ (sgP x).length := by
    unfold sgP
    split
    · simp
    · have := List.length_pos_iff.2 (dd_ne x.toNat)
      exact this
  rw [pnL, if_pos ⟨hpos, hl⟩]
  unfold sgP
  split
  · rw [if_pos (by rfl)]
    have := pnF_dig (-x).toNat
    show pnV true (pnF 0 (dgP (-x))) = x
    rw [dgP, this]
    simp only [pnV, if_true]
    omega
  · rw [if_neg (show ¬ (dgP x).head? = some 45 from dd_head45 _), dgP, pnF_dig]
    simp [pnV]
    omega
/-- What the program reads of a clue; of the clues. -/
def pcC (x : List UInt8) : Pt := (numL (cu1 46 x), numL (cu1 46 (cu2 46 x)), numL (cu2 46 (cu2 46 x)))
def pcL (l : List UInt8) : List Pt := if l = [] then [] else (spl 44 l).map pcC
/-- What the model reads. -/
def qcC (x : List UInt8) : Pt := (rdL ((spl 46 x).getD 0 []), rdL ((spl 46 x).getD 1 []), pnL ((spl 46 x).getD 2 []))
def qcT (ps : List (List UInt8)) : Bool := ps.all fun x => (spl 46 x).length == 3
def qcL (l : List UInt8) : List Pt := if l = [] then [] else (spl 44 l).map qcC
def qcF (l : List UInt8) : Bool := if l = [] then true else qcT (spl 44 l)
theorem clX_ne (q : Pt) : clX q ≠ [] := by simp [clX]
theorem clX_free {q : Pt} {c : UInt8} (h : c.toNat < 48 ∨ 57 < c.toNat) (h2 : c ≠ 45) (h3 : c ≠ 46) : c ∉ clX q := by
  intro hm
  simp only [clX, List.mem_append, List.mem_singleton] at hm
  rcases hm with (((hm | hm) | hm) | hm) | hm
  · exact dgP_free _ h hm
  · exact h3 hm
  · exact dgP_free _ h hm
  · exact h3 hm
  · exact sgP_free _ h h2 hm
theorem clX_back {q : Pt} (h : clB q = true) : pcC (clX q) = q ∧ qcC (clX q) = q ∧ (spl 46 (clX q)).length = 3 := by
  obtain ⟨a0, a1, b0, b1, c0, c1⟩ := clIn_of h
  have e : clX q = dgP q.1 ++ [46] ++ (dgP q.2.1 ++ [46] ++ sgP q.2.2) := by simp [clX]
  obtain ⟨k1, k2⟩ := cu_app (c := 46) (p := dgP q.1) (dgP q.2.1 ++ [46] ++ sgP q.2.2) (dgP_free _ (by decide))
  obtain ⟨k3, k4⟩ := cu_app (c := 46) (p := dgP q.2.1) (sgP q.2.2) (dgP_free _ (by decide))
  have hs : spl 46 (clX q) = [dgP q.1, dgP q.2.1, sgP q.2.2] := by
    rw [e, spl_app _ (dgP_free _ (by decide)), spl_app _ (dgP_free _ (by decide)), spl_free (sgP_free _ (by decide) (by decide))]
  have r1 : rdL (dgP q.1) = q.1 := by have := rdL_dig (n := q.1.toNat) (by omega); rw [dgP, this]; omega
  have r2 : rdL (dgP q.2.1) = q.2.1 := by have := rdL_dig (n := q.2.1.toNat) (by omega); rw [dgP, this]; omega
  refine ⟨?_, ?_, by rw [hs]; rfl⟩
  · rw [pcC, e, k1, k2, k3, k4, numL_dgP a0 (by omega), numL_dgP b0 (by omega), numL_sgP c0 c1]
  · rw [qcC, hs]
    show (rdL (dgP q.1), rdL (dgP q.2.1), pnL (sgP q.2.2)) = q
    rw [r1, r2, pnL_sgP c0 c1]
theorem range_clX (ps : List Pt) : (List.range ps.length).map (fun i => clX (ps.getD i pt0)) = ps.map clX := by
  refine List.ext_getElem (by simp) (fun i h1 h2 => ?_)
  have hi : i < ps.length := by simpa using h2
  rw [List.getElem_map, List.getElem_range, List.getElem_map, List.getD_eq_getElem?_getD, List.getElem?_eq_getElem hi]
  rfl
theorem join_free {c : UInt8} (hc : c ≠ 44) : ∀ (ps : List (List UInt8)), (∀ p ∈ ps, c ∉ p) → c ∉ Lib.join ps [44]
  | [], _ => by simp [Lib.join]
  | [p], h => by rw [Lib.join_one]; exact h p (by simp)
  | p :: q :: ps, h => by
    have ih := join_free hc (q :: ps) (fun x hx => h x (List.mem_cons_of_mem _ hx))
    have e : Lib.join (p :: q :: ps) [44] = p ++ [44] ++ Lib.join (q :: ps) [44] := by simp [Lib.join]
    rw [e]
    intro hm
    rcases List.mem_append.1 hm with hm | hm
    · rcases List.mem_append.1 hm with hm | hm
      · exact h p (by simp) hm
      · exact hc (by simpa using hm)
    · exact ih hm
theorem join_ne {ps : List (List UInt8)} (h : ps ≠ []) (h2 : ∀ p ∈ ps, p ≠ []) : Lib.join ps [44] ≠ [] := by
  match ps, h with
  | [p], _ => rw [Lib.join_one]; exact h2 p (by simp)
  | p :: q :: ps, _ =>
    have e : Lib.join (p :: q :: ps) [44] = p ++ [44] ++ Lib.join (q :: ps) [44] := by simp [Lib.join]
    rw [e]
    simp
/-- The clues read back. -/
theorem clues_back {ps : List Pt} (h : ps.all clB = true) : pcL (czT ps ps.length) = ps ∧ qcL (czT ps ps.length) = ps ∧ qcF (czT ps ps.length) = true ∧ (58 : UInt8) ∉ czT ps ps.length := by
  have ha : ∀ q ∈ ps, clB q = true := List.all_eq_true.1 h
  have e : czT ps ps.length = Lib.join (ps.map clX) [44] := by rw [czT, range_clX]
  rw [e]
  have hf : (58 : UInt8) ∉ Lib.join (ps.map clX) [44] := join_free (by decide) _ (fun p hp => by
    obtain ⟨q, _, rfl⟩ := List.mem_map.1 hp
    exact clX_free (by decide) (by decide) (by decide))
  cases ps with
  | nil => exact ⟨by simp [pcL, Lib.join], by simp [qcL, Lib.join], by simp [qcF, Lib.join], hf⟩
  | cons q ps =>
    have hn : Lib.join ((q :: ps).map clX) [44] ≠ [] := join_ne (by simp) (fun p hp => by
      obtain ⟨x, _, rfl⟩ := List.mem_map.1 hp
      exact clX_ne x)
    have hs : spl 44 (Lib.join ((q :: ps).map clX) [44]) = (q :: ps).map clX := spl_join (by simp) (fun p hp => by
      obtain ⟨x, _, rfl⟩ := List.mem_map.1 hp
      exact clX_free (by decide) (by decide) (by decide))
    refine ⟨?_, ?_, ?_, hf⟩
    · rw [pcL, if_neg hn, hs, List.map_map]
      conv => rhs; rw [← List.map_id (q :: ps)]
      exact List.map_congr_left (fun x hx => (clX_back (ha x hx)).1)
    · rw [qcL, if_neg hn, hs, List.map_map]
      conv => rhs; rw [← List.map_id (q :: ps)]
      exact List.map_congr_left (fun x hx => (clX_back (ha x hx)).2.1)
    · rw [qcF, if_neg hn, hs, qcT, List.all_map, List.all_eq_true]
      intro x hx
      simpa using (clX_back (ha x hx)).2.2
/-- The program's puzzle of a text, and whether it is taken. -/
def ppT (l : List UInt8) : Int := (rdm (byt (cu1 58 l))).1
def ppP (l : List UInt8) : Int := (rdm (byt (cu1 58 l))).2
def ppC (l : List UInt8) : List Pt := pcL (cu2 58 l)
def ppB (l : List UInt8) : Bool := pzB (ppT l) (ppP l) (ppC l) && decide (pzX (ppT l) (ppP l) (ppC l) = byt l)
/-- The model's. -/
def mqM (l : List UInt8) : Int × Int := rdm (byt ((spl 58 l).getD 0 []))
def mqC (l : List UInt8) : List Pt := qcL ((spl 58 l).getD 1 [])
def mqF (l : List UInt8) : Bool := decide (l.length ≤ 160) && ((spl 58 l).length == 2) && decide ((mqM l).1 ≠ 0) && qcF ((spl 58 l).getD 1 [])
def mqB (l : List UInt8) : Bool := mqF l && (pzB (mqM l).1 (mqM l).2 (mqC l) && decide (pzX (mqM l).1 (mqM l).2 (mqC l) = byt l))
theorem byt_injP {a b : List UInt8} (h : byt a = byt b) : a = b := by simpa [byt] using h
theorem pz_back {t p : Int} {ps : List Pt} {l : List UInt8} (h : pzB t p ps = true) (hl : pzX t p ps = byt l) :
    (ppT l = t ∧ ppP l = p ∧ ppC l = ps) ∧ mqM l = (t, p) ∧ mqC l = ps ∧ mqF l = true := by
  rw [pzX_yes h] at hl
  have hl := (byt_injP hl).symm
  obtain ⟨hg, h6, ha⟩ := pzB_iff.1 h
  obtain ⟨m1, m2⟩ := map_back hg
  obtain ⟨c1, c2, c3, c4⟩ := clues_back ha
  have e : l = mtx t p ++ [58] ++ czT ps ps.length := by rw [hl]; simp [pzT, hdP]
  obtain ⟨k1, k2⟩ := cu_app (c := 58) (p := mtx t p) (czT ps ps.length) m2
  rw [← e] at k1 k2
  have hs : spl 58 l = [mtx t p, czT ps ps.length] := by rw [e, spl_app _ m2, spl_free c4]
  have hlen : l.length ≤ 160 := by
    have hin : ∀ i, i < ps.length → clIn (ps.getD i pt0) := fun i hi => clIn_of (by
      have := List.all_eq_true.1 ha (ps[i]) (List.getElem_mem hi)
      rw [List.getD_eq_getElem?_getD, List.getElem?_eq_getElem hi]; exact this)
    have := pzT_len t p (K := ps.length) hin ps.length (Nat.le_refl _)
    rw [hl]
    omega
  have d0 : ([mtx t p, czT ps ps.length] : List (List UInt8)).getD 0 [] = mtx t p := rfl
  have d1 : ([mtx t p, czT ps ps.length] : List (List UInt8)).getD 1 [] = czT ps ps.length := rfl
  have hm : mqM l = (t, p) := by rw [mqM, hs, d0, m1]
  refine ⟨⟨by rw [ppT, k1, m1], by rw [ppP, k1, m1], by rw [ppC, k2, c1]⟩, hm, by rw [mqC, hs, d1, c2], ?_⟩
  have ht := goodB_iff.1 hg
  rw [mqF, hm, hs, d1, c3, decide_eq_true hlen, decide_eq_true (show t ≠ 0 by omega)]
  rfl
/-- Both take the same texts, and read the same puzzle. -/
theorem pp_same (l : List UInt8) : ppB l = mqB l ∧ (mqB l = true → ppT l = (mqM l).1 ∧ ppP l = (mqM l).2 ∧ ppC l = mqC l) := by
  have fwd : ppB l = true → mqB l = true ∧ ppT l = (mqM l).1 ∧ ppP l = (mqM l).2 ∧ ppC l = mqC l := by
    intro h
    rw [ppB, Bool.and_eq_true, decide_eq_true_eq] at h
    obtain ⟨_, k2, k3, k4⟩ := pz_back h.1 h.2
    refine ⟨?_, by rw [k2], by rw [k2], by rw [k3]⟩
    rw [mqB, k2, k3, k4, h.1, h.2]
    simp
  have bwd : mqB l = true → ppB l = true := by
    intro h
    rw [mqB, Bool.and_eq_true, Bool.and_eq_true, decide_eq_true_eq] at h
    obtain ⟨⟨k1, k2, k3⟩, _⟩ := pz_back h.2.1 h.2.2
    rw [ppB, k1, k2, k3, h.2.1, h.2.2]
    simp
  refine ⟨?_, fun h => (fwd (bwd h)).2⟩
  cases e : mqB l with
  | true => exact bwd e
  | false =>
    cases e2 : ppB l with
    | false => rfl
    | true => rw [(fwd e2).1] at e; cases e
end Go.Proofs.YtgobjobppajkbaaDoor
