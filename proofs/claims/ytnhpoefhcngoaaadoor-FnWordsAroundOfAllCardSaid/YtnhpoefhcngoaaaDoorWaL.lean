/-
  THE WALK OF THE LAW 'WordsAroundOfAll': its first six calls and their condition, then the rest.
-/
import Derived.Test.YtnhpoefhcngoaaaDoorWaB
namespace Go.Proofs.YtnhpoefhcngoaaaDoor
open Go.RowKit
set_option linter.unusedVariables false
theorem two9_two {w w1 : World} {t p t' p' : Int} {X : TypeId}
    (hb : Below ((w.alloc (.cells #[.int .i64 t, .int .i64 p] X)).alloc (.cells #[.int .i64 t', .int .i64 p'] X)).heap.size ((w.alloc (.cells #[.int .i64 t, .int .i64 p] X)).alloc (.cells #[.int .i64 t', .int .i64 p'] X)) w1) :
    Two9 w1 w.heap.size t p ∧ Two9 w1 (w.heap.size + 1) t' p' ∧ Below w.heap.size w w1 := by
  refine ⟨Two9.kept (W := ((w.alloc (.cells #[.int .i64 t, .int .i64 p] X)).alloc (.cells #[.int .i64 t', .int .i64 p'] X))) ⟨?_, ?_, by simp; omega⟩ hb, Two9.kept (W := ((w.alloc (.cells #[.int .i64 t, .int .i64 p] X)).alloc (.cells #[.int .i64 t', .int .i64 p'] X))) ⟨?_, ?_, by simp⟩ hb, (((Below.refl _ w).alloc (Nat.le_refl _) _).alloc (by simp) _).trans (hb.mono (by simp; omega))⟩
  all_goals (go_simp; done)
theorem wdo_flag (t p : Int) (s : ByteArray) : (wdo t p s).2 = askT t p s := by
  unfold wdo askT
  split
  · rename_i h; rw [h.1, h.2]; rfl
  · rename_i h
    cases h1 : goodB t p <;> cases h2 : turnB s <;> simp_all
set_option maxRecDepth 100000 in
theorem wa_long (t p : Int) (s : ByteArray) (tv pv len : Int) (T : ByteArray) (k z o : Int) (hl : 1048576 < (s.size : Int) ∨ 1048576 < (T.size : Int)) (w : World) :
    Calls Tryd.prog 3 #[.agg #[.int .i64 t, .int .i64 p], .string s, .agg #[.int .i64 tv, .int .i64 pv], .int .i64 len, .string T, .int .i64 k, .int .i64 z, .int .i64 o] w fun e w' => e = .returned (.bool true) ∧ Below w.heap.size w w' := by
  have hb : Below w.heap.size w ((w.alloc (.cells #[.int .i64 t, .int .i64 p] 23)).alloc (.cells #[.int .i64 tv, .int .i64 pv] 23)) := (below_newW w _).alloc (by simp) _
  by_cases h1 : 1048576 < (s.size : Int)
  · clear hl
    go_enter Tryd.func3, Tryd.ntmps3
    go_wp2_with fail
    go_ret
    exact ⟨rfl, hb⟩
  · have h2 := hl.resolve_left h1
    clear hl
    go_enter Tryd.func3, Tryd.ntmps3
    go_wp2_with fail
    go_ret
    exact ⟨rfl, hb⟩
set_option maxRecDepth 100000 in
set_option maxHeartbeats 16000000 in
theorem fnWordsAroundOfAll_law (t p : Int) (s : ByteArray) (tv pv len : Int) (T : ByteArray) (k z o : Int) (w : World) (hT : TabP w) :
    Calls Tryd.prog 3 #[.agg #[.int .i64 t, .int .i64 p], .string s, .agg #[.int .i64 tv, .int .i64 pv], .int .i64 len, .string T, .int .i64 k, .int .i64 z, .int .i64 o] w fun e w' => e = .returned (.bool true) ∧ Below w.heap.size w w' := by
  by_cases hl : 1048576 < (s.size : Int) ∨ 1048576 < (T.size : Int)
  · exact wa_long t p s tv pv len T k z o hl w
  have l1 : ¬ (1048576 < (s.size : Int)) := fun h => hl (.inl h)
  have l2 : ¬ (1048576 < (T.size : Int)) := fun h => hl (.inr h)
  have HT := Lib.hid hT
  clear hl hT
  have C1 := Lib.hid (fun W => iWordDoes t p s W)
  have C2 := Lib.hid (fun W => sWordDoes t p s W)
  have C3 := Lib.hid (fun W => iNumberOfWord t p s W)
  have C4 := Lib.hid (fun W => sNumberOfWord t p s W)
  have C5 := Lib.hid (fun W => iIsCycleWord t p s W)
  have C6 := Lib.hid (fun W => sIsCycleWord t p s W)
  rw [wdo_flag] at C1 C2
  have HF : Hid (askT t p s = true → WaK t p s (wdo t p s).1.1 (wdo t p s).1.2.1 (wdo t p s).1.2.2 (now t p s).1 (now t p s).2 (cwB t p s) s.size (cnt s.data.toList)) := Lib.hid (fun h => wa_facts h)
  go_enter Tryd.func3, Tryd.ntmps3
  go_wp2_with fail
  refine (C1.out _).mono ?_
  rintro e w1 ⟨rfl, hb⟩
  obtain ⟨m1, m2, hb1⟩ := two9_two hb
  have MM := Lib.hid m1
  have MV := Lib.hid m2
  have B := Lib.hid hb1
  clear m1 m2 hb1 hb l1 l2
  have q0 := MM.out.c0
  have q1 := MM.out.c1
  go_wp2_with fail
  refine (C2.out _).mono ?_
  rintro e w2 ⟨rfl, hb⟩
  replace MM := Lib.hid (MM.out.kept hb)
  replace MV := Lib.hid (MV.out.kept hb)
  replace B := Lib.hid (B.out.trans (hb.mono B.out.size))
  clear hb q0 q1
  have q0 := MM.out.c0
  have q1 := MM.out.c1
  go_wp2_with fail
  refine (C3.out _).mono ?_
  rintro e w3 ⟨rfl, hb⟩
  replace MM := Lib.hid (MM.out.kept hb)
  replace MV := Lib.hid (MV.out.kept hb)
  replace B := Lib.hid (B.out.trans (hb.mono B.out.size))
  clear hb q0 q1
  have q0 := MM.out.c0
  have q1 := MM.out.c1
  go_wp2_with fail
  refine (C4.out _).mono ?_
  rintro e w4 ⟨rfl, hb⟩
  replace MM := Lib.hid (MM.out.kept hb)
  replace MV := Lib.hid (MV.out.kept hb)
  replace B := Lib.hid (B.out.trans (hb.mono B.out.size))
  clear hb q0 q1
  have q0 := MM.out.c0
  have q1 := MM.out.c1
  go_wp2_with fail
  refine (C5.out _).mono ?_
  rintro e w5 ⟨rfl, hb⟩
  replace MM := Lib.hid (MM.out.kept hb)
  replace MV := Lib.hid (MV.out.kept hb)
  replace B := Lib.hid (B.out.trans (hb.mono B.out.size))
  clear hb q0 q1
  have q0 := MM.out.c0
  have q1 := MM.out.c1
  go_wp2_with fail
  refine (C6.out _).mono ?_
  rintro e w6 ⟨rfl, hb⟩
  replace MM := Lib.hid (MM.out.kept hb)
  replace MV := Lib.hid (MV.out.kept hb)
  replace B := Lib.hid (B.out.trans (hb.mono B.out.size))
  clear hb q0 q1
  clear C1 C2 C3 C4 C5 C6
  go_upto_region 9 with fail
  try simp only [List.append_eq, List.cons_append, List.nil_append]
  go_cut [190] from 138 to 190 (fun s190 wx => s190 = .bool false ∧ w6 = wx)
  case first =>
    clear MM MV B HT HF
    go_wp2_with fail
    go_meet
    case rel => exact ⟨rfl, rfl⟩
  case rest =>
    obtain ⟨rfl, rfl⟩ := hcut
    go_upto_if 190 with fail
    go_cut [] from 190 to 190 (fun wx => w6 = wx)
    case first =>
      go_wp2_with fail
      go_meet
      case rel => rfl
    case rest =>
      subst hcut
      refine ‹∀ (a : Act) (w : World), Code.wp _ _ _ a w → _› _ _ ?_
      exact wa_block t p s _ _ _ _ _ _ _ _ tv pv len T k z o _ w _ MM MV B HT HF _ _ _ _ _ _ _ _ _ _ _ _ _ _ _ _ _ _ _ _ _ _ _ _ _ _ _ _ _ _ _ _ _ _ _ _ _ _ _ _ _ _ _ _ _ _ _ _ _ _ _ _ _ _ _ _ _ _ _ _ _ _ _ _ _ _ _ _ _ _ _ _ _ _ _ _ _ _ _ _ _ _ _ _ _ _ _ _ _ _ _ _ _ _ _ _ _ _ _ _ _ _ _ _ _ _ _ _ _ _ _ _ _ _ _ _ _ _ _ _ _ _ _ _ _ _ _ _ _ _ _ _ _ _ _ _ _ _ _ _ _ _ _ _ _ _ _ _ _ _ _ _ _ _ _ _ _ _ _ _ _ _ _ _ _ _ _ _ _ _ _ _ _ _ _ _ _ _ _ _ _ _ _ _ _ _ _ _ _ _ _ _ _ _ _ _ _ _ _ _ _ _ _ _ _ _ _ _ _ _ _ _ _ _ _ _ _ _ _ _ _ _ _ _ _ _ _ _ _ _ _ _ _ _ _ _ _ _ _ _ _ _ _ _ _ _ _ _ _ _ _ _ _ _ _ _ _ _ _ _ _ _ _ _ _ _ _ _ _ _ _ _ _ _ _ _ _ _ _ _ _ _ _ _ _ _ _ _ _ _ _ _ _ _ _ _ _ _ _ _ _ _ _ _ _ _ _ _ _ _ _ _ _ _ _ _ _ _ _ _ _ _ _ _ _ _ _ _ _ _ _ _ _ _ _ _ _ _ _ _ _ _ _ _ _ _ _ _ _ _ _ _ _ _ _ _ _ _ _ _ _ _ _ _ _ _ _ _ _ _ _ _ _ _ _ _ _ _ _ _ _ _ _ _ _ _ _ _ _ _ _ _ _ _ _ _ _ _ _ _ _ _ _ _ _ _ _ _ _ _ _ _ _ _ _ _ _ _ _ _ _ _ _ _ _ _ _ _ _ _ _ _ _ _ _ _ _ _ _ _ _ _ _ _ _ _ _ _ _ _ _ _ _ _ _ _ _ _ _ _ _ _ _ _ _ _ _ _ _ _ _ _ _ _ _ _ _ _ _ _ _ _ _ _ _ _ _ _ _ _ _ _ _ _ _ _ _ _ _ _ _ _ _ _ _ _ _ _ _ _ _ _ _ _ _ _ _ _ _ _ _ _ _ _ _ _ _ _ _ _ _ _ _ _ _ _ _ _ _ _ _ _ _ _ _ _ _ _ _ _ _ _ _ _ _ _ _ _ _
end Go.Proofs.YtnhpoefhcngoaaaDoor
