/-
  'ifTold', 'ParseMachine' of the program.
-/
import Derived.Test.YtgobjobppajkbaaDoorRdM
import Derived.Test.YtgobjobppajkbaaDoorMtI
namespace Go.Proofs.YtgobjobppajkbaaDoor
open Go.RowKit
set_option linter.unusedVariables false

theorem isMachine_long (ns ds : List Int) (v : Value) (w : World) (hl : ds.length = ns.length) (h12 : 12 < ns.length) (hm : ns.length ≤ 2000000) (h : MacIn w v ns ds) :
    Calls Tryd.prog 86 #[v] w fun e w' => e = .returned (.bool false) ∧ Below w.heap.size w w' := by
  obtain ⟨v1, v2, rfl, i1, i2⟩ := h
  have HB := Lib.hid (fun X => (Below.refl w.heap.size w).alloc (Nat.le_refl _) X)
  obtain ⟨a1, c1, rfl⟩ := i1.form
  obtain ⟨a2, c2, rfl⟩ := i2.form
  rw [hl]
  have h3 : (ns.length : Int) ≤ 2000000 := by omega
  have h13 : ¬ (ns.length : Int) ≤ 12 := by omega
  clear i1 i2 hl hm h12
  generalize ns.length = K1 at *
  go_enter Tryd.func86, Tryd.ntmps86
  go_wp2_with fail
  go_ret
  exact ⟨rfl, HB.out _⟩
theorem iMachineText_long (ns ds : List Int) (v : Value) (w : World) (hl : ds.length = ns.length) (h12 : 12 < ns.length) (hm : ns.length ≤ 2000000) (h : MacIn w v ns ds) :
    Calls Tryd.prog 48 #[v] w fun e w' => e = .returned (.tuple #[.string (mtX ns ds), .bool (maB ns ds)]) ∧ Below w.heap.size w w' := by
  have hg : maB ns ds = false := maB_12 h12
  obtain ⟨v1, v2, rfl, i1, i2⟩ := h
  have HB := Lib.hid (below_alloc w (.cells #[v1, v2] 34))
  have M := Lib.hid ((MacIn.agg i1 i2).kept HB.out)
  have HG := Lib.hid (fun W hM => isMachine_long ns ds (.agg #[v1, v2]) W hl h12 hm hM)
  have HE := Lib.hid (mtX_no hg)
  rw [hg]
  clear i1 i2 hg hl h12 hm
  go_enter Tryd.func48, Tryd.ntmps48
  go_wp2_with fail
  refine (HG.out _ M.out).mono ?_
  rintro e w1 ⟨rfl, hb1⟩
  replace HB := Lib.hid (HB.out.trans (hb1.mono HB.out.size))
  clear hb1
  go_wp2_with fail
  go_ret2
  exact ⟨ret_tb HE.out.symm rfl, HB.out⟩
/-- 'MachineText', whatever is given. -/
theorem iMachineText_all (ns ds : List Int) (v : Value) (w : World) (hl : ds.length = ns.length) (hm : ns.length ≤ 2000000) (htab : Tab w) (h : MacIn w v ns ds) :
    Calls Tryd.prog 48 #[v] w fun e w' => e = .returned (.tuple #[.string (mtX ns ds), .bool (maB ns ds)]) ∧ Below w.heap.size w w' := by
  by_cases h12 : 12 < ns.length
  · exact iMachineText_long ns ds v w hl h12 hm h
  · exact iMachineText ns ds v w (by omega) (by omega) htab h

/-- Is it told so? -/
def tdB (s : ByteArray) (ns ds : List Int) : Bool := maB ns ds && decide (mtX ns ds = s)
/-- What comes of it. -/
def tdX (b : Bool) (ns : List Int) : List Int := if b = true then ns else []
/-- A machine and a flag. -/
def RetMac (ns ds : List Int) (ok : Bool) (w : World) (e : Ending) (w' : World) : Prop :=
  ∃ v, e = .returned (.tuple #[v, .bool ok]) ∧ MacAt w' w.heap.size w'.heap.size v ns ds ∧ Below w.heap.size w w'
theorem macAt_nil (w : World) (B : Nat) : MacAt w B w.heap.size (.agg #[.slice none 0 0, .slice none 0 0]) [] [] := ⟨Nat.le_refl _, none, 0, none, 0, rfl, fun h => (h rfl).elim, fun h => (h rfl).elim, fun h => (h rfl).elim⟩

set_option maxHeartbeats 2000000 in
theorem ifTold_any (lo hi : Nat) (ns ds : List Int) (v : Value) (s : ByteArray) (w : World) (hl : ds.length = ns.length) (hm : ns.length ≤ 2000000) (htab : Tab w) (h : MacAt w lo hi v ns ds) :
    Calls Tryd.prog 46 #[v, .func (.func 48) #[] #[], .string s] w fun e w' => (∃ v', e = .returned (.tuple #[v', .bool (tdB s ns ds)]) ∧ MacAt w' lo hi v' (tdX (tdB s ns ds) ns) (tdX (tdB s ns ds) ds)) ∧ Below w.heap.size w w' := by
  have HH := Lib.hid h
  have HI := h.isIn
  obtain ⟨hh, a1, c1, a2, c2, rfl, _⟩ := h
  have HT : Hid (∀ W, Below w.heap.size w W → Calls Tryd.prog 48 #[.agg #[.slice a1 ns.length c1, .slice a2 ds.length c2]] W fun e w' => e = .returned (.tuple #[.string (mtX ns ds), .bool (maB ns ds)]) ∧ Below W.heap.size W w') := Lib.hid (fun W hb => iMachineText_all ns ds _ W hl hm (tab_below htab hb) (HI.kept hb))
  have HB := Lib.hid ((below_alloc w (.cells #[.slice a1 ns.length c1, .slice a2 ds.length c2] 34)).alloc (by simp) (.cells #[.slice none 0 0, .slice none 0 0] 34))
  have B1 := Lib.hid ((Bx.new w (.slice a1 ns.length c1) (.slice a2 ds.length c2) 34).kept (below_alloc _ (.cells #[.slice none 0 0, .slice none 0 0] 34)))
  have B2 := Lib.hid (BxF.new (w.alloc (.cells #[.slice a1 ns.length c1, .slice a2 ds.length c2] 34)) (.slice none 0 0) (.slice none 0 0) 34)
  have HD : Hid (∀ b : Bool, (b = true → mtX ns ds = s) → (b = false → ¬ mtX ns ds = s) → tdB s ns ds = (maB ns ds && b)) := Lib.hid (fun b h1 h2 => by cases b <;> simp [tdB, h1, h2])
  obtain ⟨x, hx⟩ : ∃ x, mtX ns ds = x := ⟨_, rfl⟩
  rw [hx] at HT HD
  obtain ⟨g, hg⟩ : ∃ g, maB ns ds = g := ⟨_, rfl⟩
  rw [hg] at HT HD
  clear hx hg HI htab
  obtain ⟨t, ht⟩ : ∃ t, tdB s ns ds = t := ⟨_, rfl⟩
  rw [ht] at HD ⊢
  clear ht
  obtain ⟨n1, hn1⟩ : ∃ n1, ns.length = n1 := ⟨_, rfl⟩
  obtain ⟨n2, hn2⟩ : ∃ n2, ds.length = n2 := ⟨_, rfl⟩
  rw [hn1, hn2] at HT HB B1 B2 HH ⊢
  clear hn1 hn2 hl hm
  by_cases he : x = s
  · have hn := str_eq s
    obtain rfl : t = g := by rw [HD.out true (fun _ => he) (fun h => by cases h)]; simp
    subst he
    clear HD
    cases t
    · go_enter Tryd.func46, Tryd.ntmps46
      go_wp2_with fail
      refine (HT.out _ HB.out).mono ?_
      rintro e w1 ⟨rfl, hb1⟩
      have HB1 := Lib.hid (HB.out.trans (hb1.mono HB.out.size))
      obtain ⟨k0, k1, k2⟩ := B1.out.kept hb1
      obtain ⟨⟨m0, m1, m2⟩, m3, m4⟩ := B2.out.kept hb1
      have HJ := Lib.hid ((((B2.out.kept hb1).set0 (.slice none 0 0)).set1 (.slice none 0 0)).kept (below_alloc _ (.cells #[.slice none 0 0, .slice none 0 0] 34)))
      have HJ := Lib.hid ((((B2.out.kept hb1).set0 (.slice none 0 0)).set1 (.slice none 0 0)).kept (below_alloc _ (.cells #[.slice none 0 0, .slice none 0 0] 34)))
      simp only [World.size_alloc] at m0 m1 m2 m3 m4
      have hz := hb1.size
      simp only [World.size_alloc] at hz
      clear hb1
      go_wp2_with fail
      obtain ⟨⟨j0, j1, _⟩, _, _⟩ := HJ.out
      simp only [World.size_alloc] at j0 j1
      refine bodyPost_ret (v := .tuple #[.agg #[.slice none 0 0, .slice none 0 0], .bool false]) (by simp [results, Tryd.f46, go_sem, j0, j1]) rfl ⟨⟨_, rfl, ?_⟩, ?_⟩
      · exact ⟨by simp; omega, none, 0, none, 0, rfl, fun h => (h rfl).elim, fun h => (h rfl).elim, fun h => (h rfl).elim⟩
      · exact ((HB1.out.setCell (p := ⟨w.heap.size + 1, 0, none⟩) (by simp) _).setCell (p := ⟨w.heap.size + 1, 1, none⟩) (by simp) _).alloc (by have := HB1.out.size; simp; omega) _
    · go_enter Tryd.func46, Tryd.ntmps46
      go_wp2_with fail
      refine (HT.out _ HB.out).mono ?_
      rintro e w1 ⟨rfl, hb1⟩
      have HB1 := Lib.hid (HB.out.trans (hb1.mono HB.out.size))
      obtain ⟨k0, k1, k2⟩ := B1.out.kept hb1
      obtain ⟨⟨m0, m1, m2⟩, m3, m4⟩ := B2.out.kept hb1
      have HJ := Lib.hid ((((B2.out.kept hb1).set0 (.slice none 0 0)).set1 (.slice none 0 0)).kept (below_alloc _ (.cells #[.slice none 0 0, .slice none 0 0] 34)))
      have HJ := Lib.hid ((((B2.out.kept hb1).set0 (.slice none 0 0)).set1 (.slice none 0 0)).kept (below_alloc _ (.cells #[.slice none 0 0, .slice none 0 0] 34)))
      simp only [World.size_alloc] at m0 m1 m2 m3 m4
      have hz := hb1.size
      simp only [World.size_alloc] at hz
      clear hb1
      go_wp2_with fail
      refine bodyPost_ret (v := .tuple #[.agg #[.slice a1 n1 c1, .slice a2 n2 c2], .bool true]) (by simp [results, Tryd.f46, go_sem, m0, m1]) rfl ⟨⟨_, rfl, ?_⟩, ?_⟩
      · exact HH.out.kept ((HB1.out.setCell (p := ⟨w.heap.size + 1, 0, none⟩) (by simp) _).setCell (p := ⟨w.heap.size + 1, 1, none⟩) (by simp) _)
      · exact (HB1.out.setCell (p := ⟨w.heap.size + 1, 0, none⟩) (by simp) _).setCell (p := ⟨w.heap.size + 1, 1, none⟩) (by simp) _
  · have hn := str_ne he
    obtain rfl : t = false := by rw [HD.out false (fun h => by cases h) (fun _ => he)]; simp
    clear HD he
    cases g
    · go_enter Tryd.func46, Tryd.ntmps46
      go_wp2_with fail
      refine (HT.out _ HB.out).mono ?_
      rintro e w1 ⟨rfl, hb1⟩
      have HB1 := Lib.hid (HB.out.trans (hb1.mono HB.out.size))
      obtain ⟨k0, k1, k2⟩ := B1.out.kept hb1
      obtain ⟨⟨m0, m1, m2⟩, m3, m4⟩ := B2.out.kept hb1
      have HJ := Lib.hid ((((B2.out.kept hb1).set0 (.slice none 0 0)).set1 (.slice none 0 0)).kept (below_alloc _ (.cells #[.slice none 0 0, .slice none 0 0] 34)))
      have HJ := Lib.hid ((((B2.out.kept hb1).set0 (.slice none 0 0)).set1 (.slice none 0 0)).kept (below_alloc _ (.cells #[.slice none 0 0, .slice none 0 0] 34)))
      simp only [World.size_alloc] at m0 m1 m2 m3 m4
      have hz := hb1.size
      simp only [World.size_alloc] at hz
      clear hb1
      go_wp2_with fail
      obtain ⟨⟨j0, j1, _⟩, _, _⟩ := HJ.out
      simp only [World.size_alloc] at j0 j1
      refine bodyPost_ret (v := .tuple #[.agg #[.slice none 0 0, .slice none 0 0], .bool false]) (by simp [results, Tryd.f46, go_sem, j0, j1]) rfl ⟨⟨_, rfl, ?_⟩, ?_⟩
      · exact ⟨by simp; omega, none, 0, none, 0, rfl, fun h => (h rfl).elim, fun h => (h rfl).elim, fun h => (h rfl).elim⟩
      · exact ((HB1.out.setCell (p := ⟨w.heap.size + 1, 0, none⟩) (by simp) _).setCell (p := ⟨w.heap.size + 1, 1, none⟩) (by simp) _).alloc (by have := HB1.out.size; simp; omega) _
    · go_enter Tryd.func46, Tryd.ntmps46
      go_wp2_with fail
      refine (HT.out _ HB.out).mono ?_
      rintro e w1 ⟨rfl, hb1⟩
      have HB1 := Lib.hid (HB.out.trans (hb1.mono HB.out.size))
      obtain ⟨k0, k1, k2⟩ := B1.out.kept hb1
      obtain ⟨⟨m0, m1, m2⟩, m3, m4⟩ := B2.out.kept hb1
      have HJ := Lib.hid ((((B2.out.kept hb1).set0 (.slice none 0 0)).set1 (.slice none 0 0)).kept (below_alloc _ (.cells #[.slice none 0 0, .slice none 0 0] 34)))
      have HJ := Lib.hid ((((B2.out.kept hb1).set0 (.slice none 0 0)).set1 (.slice none 0 0)).kept (below_alloc _ (.cells #[.slice none 0 0, .slice none 0 0] 34)))
      simp only [World.size_alloc] at m0 m1 m2 m3 m4
      have hz := hb1.size
      simp only [World.size_alloc] at hz
      clear hb1
      go_wp2_with fail
      obtain ⟨⟨j0, j1, _⟩, _, _⟩ := HJ.out
      simp only [World.size_alloc] at j0 j1
      refine bodyPost_ret (v := .tuple #[.agg #[.slice none 0 0, .slice none 0 0], .bool false]) (by simp [results, Tryd.f46, go_sem, j0, j1]) rfl ⟨⟨_, rfl, ?_⟩, ?_⟩
      · exact ⟨by simp; omega, none, 0, none, 0, rfl, fun h => (h rfl).elim, fun h => (h rfl).elim, fun h => (h rfl).elim⟩
      · exact ((HB1.out.setCell (p := ⟨w.heap.size + 1, 0, none⟩) (by simp) _).setCell (p := ⟨w.heap.size + 1, 1, none⟩) (by simp) _).alloc (by have := HB1.out.size; simp; omega) _

/-- 'ParseMachine' of the program. -/
theorem iParseMachine (s : ByteArray) (hs : s.size ≤ 1048576) (w : World) (hw : Set3 w) :
    Calls Tryd.prog 15 #[.string s] w (RetMac (tdX (tdB s (rmN s) (rmD s)) (rmN s)) (tdX (tdB s (rmN s) (rmD s)) (rmD s)) (tdB s (rmN s) (rmD s)) w) := by
  have HR := Lib.hid (fun W hW => readMachine_any s hs W hW)
  have HW := Lib.hid hw
  have hln := rm_len s
  have hlm : (rmN s).length ≤ 2000000 := by
    unfold rmN
    split
    · simp
    · rw [rdN_len]; have := spB_len 44 s; omega
  have HT := Lib.hid (fun lo hi v W (hT : Tab W) hm => ifTold_any lo hi (rmN s) (rmD s) v s W hln hlm hT hm)
  generalize tdB s (rmN s) (rmD s) = ok at *
  generalize tdX ok (rmN s) = xs at *
  generalize tdX ok (rmD s) = ys at *
  generalize rmN s = ns at *
  generalize rmD s = ds at *
  have HB := Lib.hid (below_alloc w (.cells #[.slice none 0 0, .slice none 0 0] 34))
  have B := Lib.hid (BxF.new w (.slice none 0 0) (.slice none 0 0) 34)
  clear hw hln hlm hs
  go_enter Tryd.func15, Tryd.ntmps15
  go_wp2_with fail
  refine (HR.out _ (HW.out.below HB.out)).mono ?_
  rintro e w1 ⟨v1, rfl, m1, hb1⟩
  have HB1 := Lib.hid (HB.out.trans (hb1.mono HB.out.size))
  have B1 := Lib.hid (B.out.kept hb1)
  have M1 := Lib.hid m1
  obtain ⟨_, a1, c1, a2, c2, rfl, _⟩ := m1
  clear hb1
  go_wp2_with fail
  refine (HT.out _ _ _ _ (HW.out.below HB1.out).tab M1.out).mono ?_
  rintro e w2 ⟨⟨v2, rfl, m2⟩, hb2⟩
  have HB2 := Lib.hid (HB1.out.trans (hb2.mono HB1.out.size))
  obtain ⟨⟨k0, k1, k2⟩, k3, k4⟩ := B1.out.kept hb2
  have B2 := Lib.hid (((B1.out.kept hb2)))
  have M2 := Lib.hid m2
  have hz1 := B1.out.1.2.2
  obtain ⟨_, a3, c3, a4, c4, rfl, _⟩ := m2
  clear hb2
  go_wp2_with fail
  obtain ⟨⟨j0, j1, _⟩, _, _⟩ := (B2.out.set0 (.slice a3 xs.length c3)).set1 (.slice a4 ys.length c4)
  refine bodyPost_ret (v := .tuple #[.agg #[.slice a3 xs.length c3, .slice a4 ys.length c4], .bool ok]) (by simp [results, Tryd.f15, go_sem, j0, j1]) rfl ⟨_, rfl, ?_, ?_⟩
  · have h := M2.out.of (w' := (w2.setCell ⟨w.heap.size, 0, none⟩ (.slice a3 xs.length c3)).setCell ⟨w.heap.size, 1, none⟩ (.slice a4 ys.length c4)) (by simp) (fun g hg _ => by
      have : w.heap.size < g := by simp at hg; omega
      rw [Below.heap_setCell _ _ _ _ (by simp; omega), Below.heap_setCell _ _ _ _ (by simp; omega)])
    obtain ⟨h1, a5, c5, a6, c6, e, h2, h3, h4⟩ := h
    exact ⟨Nat.le_refl _, a5, c5, a6, c6, e, h2.wide (by simp) h1, h3.wide (by simp) h1, h4⟩
  · exact (HB2.out.setCell (p := ⟨w.heap.size, 0, none⟩) (Nat.le_refl _) _).setCell (p := ⟨w.heap.size, 1, none⟩) (Nat.le_refl _) _
end Go.Proofs.YtgobjobppajkbaaDoor
