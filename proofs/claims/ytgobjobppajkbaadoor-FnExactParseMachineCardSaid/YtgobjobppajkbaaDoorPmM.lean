/-
  READING A MACHINE'S TEXT: the program's way and the model's come to the same (mathematics).
-/
import Derived.Test.YtgobjobppajkbaaDoorMpS
namespace Go.Proofs.YtgobjobppajkbaaDoor
open Go.RowKit
set_option linter.unusedVariables false

/-- A piece that the model takes. -/
theorem piece_ok {p : List UInt8} (h2 : (spl 47 p).length = 2) (h0 : 1 ≤ rdL ((spl 47 p).getD 0 []) ∧ rdL ((spl 47 p).getD 0 []) ≤ 100000) (h1 : 1 ≤ rdL ((spl 47 p).getD 1 []) ∧ rdL ((spl 47 p).getD 1 []) ≤ 100000) :
    numL (cu1 47 p) = rdL ((spl 47 p).getD 0 []) ∧ numL (cu2 47 p) = rdL ((spl 47 p).getD 1 []) ∧ p = Lib.decDigits (rdL ((spl 47 p).getD 0 [])).toNat ++ [47] ++ Lib.decDigits (rdL ((spl 47 p).getD 1 [])).toNat := by
  obtain ⟨a, b, hab⟩ := two_of h2
  have hj := join_spl 47 p
  rw [hab] at h0 h1 hj ⊢
  have e0 : ([a, b] : List (List UInt8)).getD 0 [] = a := rfl
  have e1 : ([a, b] : List (List UInt8)).getD 1 [] = b := rfl
  rw [e0] at h0 ⊢
  rw [e1] at h1 ⊢
  have hp : p = a ++ [47] ++ b := by
    rw [← hj]
    simp [Lib.join]
  have ha := rdL_canon (l := a) (by omega)
  have hb := rdL_canon (l := b) (by omega)
  have na : (rdL a).toNat < 9223372036854775808 := by omega
  have nb : (rdL b).toNat < 9223372036854775808 := by omega
  have hf : (47 : UInt8) ∉ a := by rw [ha]; exact dd_free _ (by decide)
  obtain ⟨c1, c2⟩ := cu_app b hf
  rw [← hp] at c1 c2
  have k1 : numL a = rdL a := by
    have := numL_dig (rdL a).toNat na
    rw [← ha] at this
    omega
  have k2 : numL b = rdL b := by
    have := numL_dig (rdL b).toNat nb
    rw [← hb] at this
    omega
  rw [c1, c2, ← ha, ← hb]
  exact ⟨k1, k2, hp⟩
/-- A piece that the program tells. -/
theorem piece_told {n d : Nat} (hn : n ≤ 100000) (hd : d ≤ 100000) {p : List UInt8} (hp : p = Lib.decDigits n ++ [47] ++ Lib.decDigits d) : (spl 47 p).length = 2 ∧ rdL ((spl 47 p).getD 0 []) = (n : Int) ∧ rdL ((spl 47 p).getD 1 []) = (d : Int) := by
  have e : spl 47 p = [Lib.decDigits n, Lib.decDigits d] := by
    rw [hp, spl_app _ (dd_free n (by decide)), spl_free (dd_free d (by decide))]
  rw [e]
  exact ⟨rfl, rdL_dig (by omega), rdL_dig (by omega)⟩
theorem frs_eq {ns ds : List Int} {ps : List (List UInt8)} (h : ∀ i p, ps[i]? = some p → p = frT ns ds i) : (List.range ps.length).map (frT ns ds) = ps := by
  refine List.ext_getElem (by simp) (fun i h1 h2 => ?_)
  rw [List.getElem_map, List.getElem_range]
  exact (h i _ (List.getElem?_eq_getElem h2)).symm
/-- What the program reads of pieces. -/
def ppN (ps : List (List UInt8)) : List Int := ps.map fun p => numL (cu1 47 p)
def ppD (ps : List (List UInt8)) : List Int := ps.map fun p => numL (cu2 47 p)
theorem map_getD {ps : List (List UInt8)} {f : List UInt8 → Int} {i : Nat} {p : List UInt8} (h : ps[i]? = some p) : (ps.map f).getD i 0 = f p := by
  rw [List.getD_eq_getElem?_getD, List.getElem?_map, h]; rfl
theorem pm_yes {ps : List (List UInt8)} (hT : mpT ps = true) (hB : maB (mpN ps) (mpD ps) = true) : ppN ps = mpN ps ∧ ppD ps = mpD ps ∧ mcT (mpN ps) (mpD ps) ps.length = Lib.join ps [44] := by
  obtain ⟨_, _, h1, h2⟩ := maB_parts hB
  have hl := mpN_len ps
  have key : ∀ (i : Nat) (p : List UInt8), ps[i]? = some p → numL (cu1 47 p) = rdL ((spl 47 p).getD 0 []) ∧ numL (cu2 47 p) = rdL ((spl 47 p).getD 1 []) ∧ p = frT (mpN ps) (mpD ps) i := by
    intro i p hp
    have hi := (List.getElem?_eq_some_iff.1 hp).1
    have t : (spl 47 p).length = 2 := by
      have := List.all_eq_true.1 hT p (List.mem_of_getElem? hp)
      simpa using this
    have a1 := h1 i (by omega)
    have a2 := h2 i (by omega)
    have b1 : (mpN ps).getD i 0 = rdL ((spl 47 p).getD 0 []) := map_getD hp
    have b2 : (mpD ps).getD i 0 = rdL ((spl 47 p).getD 1 []) := map_getD hp
    rw [b1] at a1
    rw [b2] at a2
    obtain ⟨c1, c2, c3⟩ := piece_ok t a1 a2
    exact ⟨c1, c2, by rw [frT, b1, b2]; exact c3⟩
  refine ⟨List.map_congr_left (fun p hp => ?_), List.map_congr_left (fun p hp => ?_), ?_⟩
  · obtain ⟨i, hi⟩ := List.getElem?_of_mem hp
    exact (key i p hi).1
  · obtain ⟨i, hi⟩ := List.getElem?_of_mem hp
    exact (key i p hi).2.1
  · rw [mcT, frs_eq (fun i p hp => (key i p hp).2.2)]
theorem fr_len {n d : Nat} (hn : n ≤ 100000) (hd : d ≤ 100000) : (Lib.decDigits n ++ [47] ++ Lib.decDigits d).length ≤ 13 := by
  have h1 := dd_len 5 n (by omega)
  have h2 := dd_len 5 d (by omega)
  simp
  omega
theorem join_len (m : Nat) : ∀ (ps : List (List UInt8)), (∀ p ∈ ps, p.length ≤ m) → (Lib.join ps [44]).length ≤ ps.length * (m + 1)
  | [], _ => by simp [Lib.join]
  | [p], h => by rw [Lib.join_one]; have := h p (by simp); simp; omega
  | p :: q :: ps, h => by
    have ih := join_len m (q :: ps) (fun x hx => h x (List.mem_cons_of_mem _ hx))
    have hp := h p (by simp)
    have e : Lib.join (p :: q :: ps) [44] = p ++ [44] ++ Lib.join (q :: ps) [44] := by simp [Lib.join]
    rw [e]
    have e2 : (p :: q :: ps).length * (m + 1) = (q :: ps).length * (m + 1) + (m + 1) := by rw [List.length_cons, Nat.succ_mul]
    rw [e2]
    simp only [List.length_append, List.length_cons, List.length_nil] at ih ⊢
    omega
theorem pm_told {l : List UInt8} {ps : List (List UInt8)} (hps : spl 44 l = ps) (hB : maB (ppN ps) (ppD ps) = true) (ht : mcT (ppN ps) (ppD ps) (ppN ps).length = l) :
    l.length ≤ 200 ∧ mpT ps = true ∧ mpN ps = ppN ps ∧ mpD ps = ppD ps := by
  obtain ⟨_, h12, h1, h2⟩ := maB_parts hB
  have hl : (ppN ps).length = ps.length := by simp [ppN]
  have hne : ps ≠ [] := by rw [← hps]; exact spl_ne 44 l
  have hpos : 0 < ps.length := List.length_pos_iff.2 hne
  have hfree : ∀ p ∈ (List.range (ppN ps).length).map (frT (ppN ps) (ppD ps)), (44 : UInt8) ∉ p := by
    intro p hp
    obtain ⟨i, _, rfl⟩ := List.mem_map.1 hp
    intro hm
    rw [frT] at hm
    rcases List.mem_append.1 hm with hm | hm
    · rcases List.mem_append.1 hm with hm | hm
      · exact dd_free _ (by decide) hm
      · simp at hm
    · exact dd_free _ (by decide) hm
  have hsp : spl 44 l = (List.range (ppN ps).length).map (frT (ppN ps) (ppD ps)) := by
    conv => lhs; rw [← ht]
    exact spl_join (by intro e; have h := congrArg List.length e; rw [List.length_map, List.length_range, List.length_nil] at h; omega) hfree
  rw [hps, hl] at hsp
  have key : ∀ (i : Nat) (p : List UInt8), ps[i]? = some p → (spl 47 p).length = 2 ∧ rdL ((spl 47 p).getD 0 []) = numL (cu1 47 p) ∧ rdL ((spl 47 p).getD 1 []) = numL (cu2 47 p) ∧ p.length ≤ 13 := by
    intro i p hp
    have hi := (List.getElem?_eq_some_iff.1 hp).1
    have e : p = frT (ppN ps) (ppD ps) i := by
      have h := hp
      rw [hsp, List.getElem?_map, List.getElem?_range (by simpa using hi)] at h
      simpa using h.symm
    have a1 := h1 i (by omega)
    have a2 := h2 i (by omega)
    have b1 : (ppN ps).getD i 0 = numL (cu1 47 p) := map_getD hp
    have b2 : (ppD ps).getD i 0 = numL (cu2 47 p) := map_getD hp
    rw [frT, b1, b2] at e
    rw [b1] at a1
    rw [b2] at a2
    obtain ⟨c0, c1, c2⟩ := piece_told (n := (numL (cu1 47 p)).toNat) (d := (numL (cu2 47 p)).toNat) (by omega) (by omega) e
    refine ⟨c0, by omega, by omega, ?_⟩
    have := fr_len (n := (numL (cu1 47 p)).toNat) (d := (numL (cu2 47 p)).toNat) (by omega) (by omega)
    rwa [← e] at this
  have all : ∀ p ∈ ps, (spl 47 p).length = 2 ∧ rdL ((spl 47 p).getD 0 []) = numL (cu1 47 p) ∧ rdL ((spl 47 p).getD 1 []) = numL (cu2 47 p) ∧ p.length ≤ 13 := by
    intro p hp
    obtain ⟨i, hi⟩ := List.getElem?_of_mem hp
    exact key i p hi
  refine ⟨?_, ?_, List.map_congr_left (fun p hp => (all p hp).2.1), List.map_congr_left (fun p hp => (all p hp).2.2.1)⟩
  · have hj := join_len 13 ps (fun p hp => (all p hp).2.2.2)
    rw [← hps, join_spl, hps] at hj
    have : ps.length * (13 + 1) ≤ 12 * (13 + 1) := Nat.mul_le_mul_right _ (by omega)
    omega
  · exact List.all_eq_true.2 (fun p hp => by have := (all p hp).1; simp [this])
theorem rdN_spB (l : List UInt8) : rdN (spB 44 (byt l)) = ppN (spl 44 l) := by
  simp [rdN, spB, ppN, byt, Function.comp_def]
theorem rdD_spB (l : List UInt8) : rdD (spB 44 (byt l)) = ppD (spl 44 l) := by
  simp [rdD, spB, ppD, byt, Function.comp_def]
theorem byt_inj {a b : List UInt8} (h : byt a = byt b) : a = b := by simpa [byt] using h
/-- The program's answer is the model's. -/
theorem pm_same (l : List UInt8) : tdB (byt l) (rmN (byt l)) (rmD (byt l)) = mpB l ∧ tdX (tdB (byt l) (rmN (byt l)) (rmD (byt l))) (rmN (byt l)) = mpX l (mpN (spl 44 l)) ∧ tdX (tdB (byt l) (rmN (byt l)) (rmD (byt l))) (rmD (byt l)) = mpX l (mpD (spl 44 l)) := by
  by_cases h : l = [45]
  · subst h
    have e1 : rmN (byt [45]) = [] := by rw [rmN, if_pos rfl]
    have e2 : rmD (byt [45]) = [] := by rw [rmD, if_pos rfl]
    have hb : maB [] [] = true := rfl
    rw [e1, e2, tdB, mtX_nil hb rfl, hb]
    simp [mpB, mpX, tdX]
  · have hb : ¬ byt l = byt [45] := fun e => h (byt_inj e)
    have e1 : rmN (byt l) = ppN (spl 44 l) := by rw [rmN, if_neg hb, rdN_spB]
    have e2 : rmD (byt l) = ppD (spl 44 l) := by rw [rmD, if_neg hb, rdD_spB]
    rw [e1, e2, mpX, if_neg h, mpX, if_neg h]
    have hne := spl_ne 44 l
    obtain ⟨ps, hps⟩ : ∃ ps, spl 44 l = ps := ⟨_, rfl⟩
    rw [hps] at hne ⊢
    have hpn : ppN ps ≠ [] := fun e => hne (by have := congrArg List.length e; simp [ppN] at this; exact this)
    have hpl : (ppN ps).length = ps.length := by simp [ppN]
    have key : mpB l = true ↔ tdB (byt l) (ppN ps) (ppD ps) = true := by
      rw [mpB, if_neg h, mpOk, hps, tdB, Bool.and_eq_true, Bool.and_eq_true, Bool.and_eq_true, decide_eq_true_eq, decide_eq_true_eq]
      constructor
      · rintro ⟨h200, hT, hB⟩
        obtain ⟨c1, c2, c3⟩ := pm_yes hT hB
        have hB' : maB (ppN ps) (ppD ps) = true := by rw [c1, c2]; exact hB
        refine ⟨hB', ?_⟩
        rw [mtX_yes hB' hpn, hpl, c1, c2, c3, ← hps, join_spl]
      · rintro ⟨hB, ht⟩
        rw [mtX_yes hB hpn] at ht
        obtain ⟨c0, c1, c2, c3⟩ := pm_told hps hB (byt_inj ht)
        exact ⟨c0, c1, by rw [c2, c3]; exact hB⟩
    have kb : tdB (byt l) (ppN ps) (ppD ps) = mpB l := by
      cases e : mpB l with
      | true => exact key.1 e
      | false =>
        cases e2 : tdB (byt l) (ppN ps) (ppD ps) with
        | false => rfl
        | true => rw [key.2 e2] at e; cases e
    rw [kb]
    refine ⟨rfl, ?_⟩
    cases e : mpB l with
    | false => exact ⟨rfl, rfl⟩
    | true =>
      have hk := key.1 e
      rw [tdB, Bool.and_eq_true, decide_eq_true_eq] at hk
      have ht := hk.2
      rw [mtX_yes hk.1 hpn] at ht
      obtain ⟨c0, c1, c2, c3⟩ := pm_told hps hk.1 (byt_inj ht)
      rw [c2, c3]
      exact ⟨rfl, rfl⟩
end Go.Proofs.YtgobjobppajkbaaDoor
