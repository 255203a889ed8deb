/-
  'ParseMap' of the program.
-/
import Derived.Test.YtmocbkpfoddffaaDoorParse
import Derived.Lib.IndexBytes
import Derived.Lib.CutLaws
import Derived.Deep.RegionWith
namespace Go.Proofs.YtmocbkpfoddffaaDoor
open Go.RowKit
set_option linter.unusedVariables false

/-- What the listed error variables hold: pointers to errors. -/
abbrev HoldsErr (w : World) (n : String) : Prop := ∃ tp p, w.var? Tryd.prog n = some #[.iface tp p]
theorem var_below {w w' : World} {n : String} {v : Array Value} (h : w.var? Tryd.prog n = some v) (hb : Below w.heap.size w w') : w'.var? Tryd.prog n = some v := by
  unfold World.var? at h ⊢
  cases hg : Tryd.prog.globalNamed n with
  | none => rw [hg] at h; cases h
  | some g =>
    rw [hg] at h
    simp only [Option.bind_some] at h ⊢
    rcases Nat.lt_or_ge g w.heap.size with h' | h'
    · rw [hb.block _ h']
      exact h
    · rw [Array.getElem?_eq_none h'] at h
      cases h
/-- What the program's start has laid. -/
structure Set3 (w : World) : Prop where
  tab : Tab w
  syn : HoldsErr w "strconv.ErrSyntax"
  rng : HoldsErr w "strconv.ErrRange"
theorem Set3.below {w w' : World} (h : Set3 w) (hb : Below w.heap.size w w') : Set3 w' :=
  ⟨tab_below h.tab hb, let ⟨a, b, k⟩ := h.syn; ⟨a, b, var_below k hb⟩, let ⟨a, b, k⟩ := h.rng; ⟨a, b, var_below k hb⟩⟩

/-- The number that a text spells, 0 where it spells none. -/
def numOf (s : ByteArray) : Int := match Lib.atoiAll s.data.toList with
  | .ok v => v
  | _ => 0

set_option maxRecDepth 100000 in
theorem readInt_any (s : ByteArray) (hl : s.size ≤ 281474976710656) (w : World) (hw : Set3 w) :
    Calls Tryd.prog 63 #[.string s] w fun e w' => e = .returned (.int .i64 (numOf s)) ∧ Below w.heap.size w w' := by
  obtain ⟨htab, ⟨t1, p1, hv1⟩, t2, p2, hv2⟩ := hw
  cases hc : Lib.atoiAll s.data.toList with
  | ok v =>
    have hn : numOf s = v := by rw [numOf, hc]
    have HN := Lib.hid hn
    have HC := Lib.hid hc
    clear hn hc hv1 hv2 htab
    go_enter Tryd.func63, Tryd.ntmps63
    go_wp2_with fail
    refine (Tryd.strconv_Atoi_ok s (by omega) v HC.out _).mono ?_
    rintro e w2 ⟨rfl, hb⟩
    have hbb : Below w.heap.size w w2 := by
      rcases hb with rfl | ⟨t, rfl⟩
      · exact Below.refl _ _
      · exact Lib.bytesWorld_below _ _ _
    clear hb
    go_wp2_with fail
    go_ret
    exact ⟨by rw [HN.out]; rfl, hbb⟩
  | «syntax» =>
    have hn : numOf s = 0 := by rw [numOf, hc]
    have HN := Lib.hid hn
    have HC := Lib.hid hc
    have HV := Lib.hid hv1
    clear hn hc hv1 hv2 htab
    go_enter Tryd.func63, Tryd.ntmps63
    go_wp2_with fail
    refine (Tryd.strconv_Atoi_syntax_var s hl HC.out t1 p1 _ HV.out).mono ?_
    rintro e w2 ⟨N, rfl, -, -, hb⟩
    go_wp2_with fail
    go_ret
    exact ⟨by rw [HN.out]; rfl, hb⟩
  | range =>
    have hn : numOf s = 0 := by rw [numOf, hc]
    have HN := Lib.hid hn
    have HC := Lib.hid hc
    have HV := Lib.hid hv2
    clear hn hc hv1 hv2 htab
    go_enter Tryd.func63, Tryd.ntmps63
    go_wp2_with fail
    refine (Tryd.strconv_Atoi_range_var s hl HC.out t2 p2 _ HV.out).mono ?_
    rintro e w2 ⟨N, rfl, -, -, hb⟩
    go_wp2_with fail
    go_ret
    exact ⟨by rw [HN.out]; rfl, hb⟩

abbrev xx : ByteArray := ⟨#[120]⟩
theorem idx_any (s : ByteArray) (w : World) :
    Calls Tryd.prog 72 #[.string s, .string xx] w fun e w' => e = .returned (.int .i64 (Lib.indexB s xx)) ∧ w' = w := by
  refine (Tryd.stringslite_Index_one s 120 w).mono ?_
  rintro e w' ⟨rfl, rfl⟩
  refine ⟨?_, rfl⟩
  rw [← Lib.index_one]

set_option maxRecDepth 100000 in
theorem cutl_any (s : ByteArray) (hs : s.size ≤ 1048576) (w : World) :
    Calls Tryd.prog 66 #[.string s, .string xx] w fun e w' => e = .returned (.tuple #[.string ⟨(Lib.cut s.data.toList xx.data.toList).1.toArray⟩, .string ⟨(Lib.cut s.data.toList xx.data.toList).2.1.toArray⟩, .bool (Lib.cut s.data.toList xx.data.toList).2.2]) ∧ Below w.heap.size w w' := by
  rcases Lib.indexB_cases s xx with hix | ⟨i, hix, hroom⟩
  · obtain ⟨e1, e2, e3⟩ := Lib.cutB_miss s xx hix
    rw [e1, e2, e3]
    have HI := Lib.hid hix
    clear e1 e2 e3 hix
    go_enter Tryd.func66, Tryd.ntmps66
    go_wp2_with fail
    refine (idx_any s _).mono ?_
    rintro e w' ⟨rfl, rfl⟩
    rw [HI.out]
    go_wp2_with fail
    go_ret3
    exact ⟨rfl, Below.refl _ _⟩
  · obtain ⟨e1, e2, e3⟩ := Lib.cutB_hit s xx i hix
    rw [e1, e2, e3]
    have hx : xx.size = 1 := rfl
    rw [hx] at hroom ⊢
    have HI := Lib.hid hix
    have c1 : (0 : Int) ≤ ↑i := by omega
    have c2 : (↑i : Int) ≤ ↑s.size := by omega
    have c3 : (0 : Int) ≤ ↑i + 1 := by omega
    have c4 : (↑i + 1 : Int) ≤ ↑s.size := by omega
    have c5 : (↑i : Int) ≤ 1048576 := by omega
    clear e1 e2 e3 hix hx
    go_enter Tryd.func66, Tryd.ntmps66
    go_wp2_with fail
    refine (idx_any s _).mono ?_
    rintro e w' ⟨rfl, rfl⟩
    rw [HI.out]
    go_wp2_with fail
    go_region
    go_wp2
    go_ret3
    exact ⟨rfl, (Below.refl _ _).drew⟩

theorem cut_any (s : ByteArray) (hs : s.size ≤ 1048576) (w : World) :
    Calls Tryd.prog 62 #[.string s, .string xx] w fun e w' => e = .returned (.tuple #[.string ⟨(Lib.cut s.data.toList xx.data.toList).1.toArray⟩, .string ⟨(Lib.cut s.data.toList xx.data.toList).2.1.toArray⟩, .bool (Lib.cut s.data.toList xx.data.toList).2.2]) ∧ Below w.heap.size w w' := by
  go_enter Tryd.func62, Tryd.ntmps62
  go_wp2_with fail
  refine (cutl_any s hs _).mono ?_
  rintro e w' ⟨rfl, hb⟩
  go_wp2_with fail
  go_ret3
  exact ⟨rfl, hb⟩

/-- The two parts of a text at its first x. -/
def fst (s : ByteArray) : ByteArray := ⟨(Lib.cut s.data.toList xx.data.toList).1.toArray⟩
def snd (s : ByteArray) : ByteArray := ⟨(Lib.cut s.data.toList xx.data.toList).2.1.toArray⟩
def thd (s : ByteArray) : Bool := (Lib.cut s.data.toList xx.data.toList).2.2
theorem fst_le (s : ByteArray) : (fst s).size ≤ s.size := by
  unfold fst Lib.cut
  split
  · show (List.toArray _).size ≤ s.data.size
    simp
    omega
  · exact Nat.le_refl _
theorem snd_le (s : ByteArray) : (snd s).size ≤ s.size := by
  unfold snd Lib.cut
  split
  · show (List.toArray _).size ≤ s.data.size
    simp
  · exact Nat.zero_le _
theorem cut_is (s : ByteArray) (hs : s.size ≤ 1048576) (w : World) :
    Calls Tryd.prog 62 #[.string s, .string xx] w fun e w' => e = .returned (.tuple #[.string (fst s), .string (snd s), .bool (thd s)]) ∧ Below w.heap.size w w' := cut_any s hs w

/-- The map that a text is read as, the zero one if it is no map's text. -/
def rdp (s : ByteArray) (T P : Int) : Int × Int := if goodB T P = true ∧ byt (mtx T P) = s then (T, P) else (0, 0)
def rdm (s : ByteArray) : Int × Int := rdp s (numOf (fst s)) (numOf (snd s))

set_option maxRecDepth 100000 in
set_option maxHeartbeats 2000000 in
theorem readMap_any (s : ByteArray) (hs : s.size ≤ 1048576) (w : World) (hw : Set3 w) :
    Calls Tryd.prog 46 #[.string s] w fun e w' => e = .returned (.agg #[.int .i64 (rdm s).1, .int .i64 (rdm s).2]) ∧ Below w.heap.size w w' := by
  have HW := Lib.hid hw
  have h1 := fst_le s
  have h2 := snd_le s
  have h0 := Below.alloc (Below.refl w.heap.size w) (Nat.le_refl _) (.cells #[.int .i64 0, .int .i64 0] 28)
  obtain ⟨T, hT⟩ : ∃ T, T = numOf (fst s) := ⟨_, rfl⟩
  obtain ⟨P, hP⟩ : ∃ P, P = numOf (snd s) := ⟨_, rfl⟩
  have hR : rdm s = rdp s T P := by rw [hT, hP]; rfl
  have HRD := Lib.hid hR
  have HF := Lib.hid (fun W hW => readInt_any (fst s) (by omega) W hW)
  have HS := Lib.hid (fun W hW => readInt_any (snd s) (by omega) W hW)
  rw [← hT] at HF
  rw [← hP] at HS
  clear hw hR hT hP
  go_enter Tryd.func46, Tryd.ntmps46
  go_wp2_with fail
  refine (cut_is s hs _).mono ?_
  rintro e w1 ⟨rfl, hb1⟩
  have g1 := h0.trans (hb1.mono (by simp))
  go_wp2_with fail
  refine (HF.out _ (HW.out.below g1)).mono ?_
  rintro e w2 ⟨rfl, hb2⟩
  have k2 := hb1.trans (hb2.mono hb1.size)
  have g2 := h0.trans (k2.mono (by simp))
  go_wp2_with fail
  refine (HS.out _ (HW.out.below g2)).mono ?_
  rintro e w3 ⟨rfl, hb3⟩
  have k3 := k2.trans (hb3.mono k2.size)
  have g3 := h0.trans (k3.mono (by simp))
  clear hb1 hb2 hb3 k2 g1 g2
  go_wp2_with fail
  refine (iMapText T P _ ((HW.out.below g3).below ((Below.refl _ w3).alloc (Nat.le_refl _) _)).tab).mono ?_
  rintro e w4 ⟨rfl, hb4⟩
  obtain ⟨c0, c1, hz, hb5⟩ := map_block hb4
  have k5 := k3.trans (hb5.mono k3.size)
  have g5 := h0.trans (k5.mono (by simp))
  have d0 : w4.cell? ⟨w.heap.size, 0, none⟩ = some (.int .i64 0) := (k5.cell (p := ⟨w.heap.size, 0, none⟩) (by simp)).trans (by go_simp)
  have d1 : w4.cell? ⟨w.heap.size, 1, none⟩ = some (.int .i64 0) := (k5.cell (p := ⟨w.heap.size, 1, none⟩) (by simp)).trans (by go_simp)
  have f0 : w4.frozen? ⟨w.heap.size, 0, none⟩ = false := (k5.frozen (p := ⟨w.heap.size, 0, none⟩) (by simp)).trans (by go_simp)
  have f1 : w4.frozen? ⟨w.heap.size, 1, none⟩ = false := (k5.frozen (p := ⟨w.heap.size, 1, none⟩) (by simp)).trans (by go_simp)
  clear hb4 hb5 k3 g3 HF HS h1 h2
  by_cases hg : goodB T P = true
  · have hm : mpt T P = byt (mtx T P) := by rw [mpt, if_pos hg]
    rw [hg, hm]
    by_cases he : byt (mtx T P) = s
    · have HR := Lib.hid (show rdm s = (T, P) by rw [HRD.out, rdp, if_pos ⟨hg, he⟩])
      rw [he]
      have hn := str_eq s
      clear hg hm he HRD
      go_wp2_with fail
      refine bodyPost_ret (v := .agg #[.int .i64 T, .int .i64 P]) ?_ rfl ⟨by rw [HR.out], ?_⟩
      · simp [results, Tryd.results46, go_sem, d0, d1]
      · exact (g5.setCell (p := ⟨w.heap.size, 0, none⟩) (Nat.le_refl _) _).setCell (p := ⟨w.heap.size, 1, none⟩) (Nat.le_refl _) _
    · have HR := Lib.hid (show rdm s = (0, 0) by rw [HRD.out, rdp, if_neg (fun h => he h.2)])
      have hn := str_ne he
      clear hg hm he HRD
      go_wp2_with fail
      refine bodyPost_ret (v := .agg #[.int .i64 0, .int .i64 0]) ?_ rfl ⟨by rw [HR.out], ?_⟩
      · simp [results, Tryd.results46, go_sem, d0, d1]
      · exact (g5.setCell (p := ⟨w.heap.size, 0, none⟩) (Nat.le_refl _) _).setCell (p := ⟨w.heap.size, 1, none⟩) (Nat.le_refl _) _
  · have hg' : goodB T P = false := by simpa using hg
    have HR := Lib.hid (show rdm s = (0, 0) by rw [HRD.out, rdp, if_neg (fun h => hg h.1)])
    rw [hg']
    generalize mpt T P = x
    clear hg hg' HRD
    go_wp2_with fail
    refine bodyPost_ret (v := .agg #[.int .i64 0, .int .i64 0]) ?_ rfl ⟨by rw [HR.out], ?_⟩
    · simp [results, Tryd.results46, go_sem, d0, d1]
    · exact (g5.setCell (p := ⟨w.heap.size, 0, none⟩) (Nat.le_refl _) _).setCell (p := ⟨w.heap.size, 1, none⟩) (Nat.le_refl _) _
end Go.Proofs.YtmocbkpfoddffaaDoor
