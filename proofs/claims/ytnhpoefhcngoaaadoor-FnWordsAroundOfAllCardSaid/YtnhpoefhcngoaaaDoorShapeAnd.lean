/-
  THE TWO TABLES THAT THE WALKS WANT: the project's own, which the row lists, and the library's number, which the world's shape gives.
-/
import Derived.Test.YtnhpoefhcngoaaaDoorCPrim
import Derived.Handed
namespace Go.Proofs.YtnhpoefhcngoaaaDoor
open Go.RowKit
set_option linter.unusedVariables false

/-- Both. -/
def TabP (W : World) : Prop := Tab W ∧ TabM W
theorem tabP_below {w w' : World} (h : TabP w) {B : Nat} (hb : Below B w w') (hB : w.heap.size ≤ B) : TabP w' :=
  ⟨tab_below h.1 hb hB, tabM_below h.2 hb (Nat.lt_of_lt_of_le (tabM_lt h.2) hB)⟩
theorem iCycleWordsP (t p k : Int) (w : World) (h : TabP w) :
    Calls Tryd.prog 13 #[.agg #[.int .i64 t, .int .i64 p], .int .i64 k] w (RetStrs (cwA t p k) (askK t p k) w) := iCycleWords t p k w h.1 h.2
theorem iCountCycleWordsP (t p k : Int) (w : World) (h : TabP w) :
    Calls Tryd.prog 15 #[.agg #[.int .i64 t, .int .i64 p], .int .i64 k] w fun e w' => e = .returned (.tuple #[.int .i64 ((cwA t p k).length : Nat), .bool (askK t p k)]) ∧ Below w.heap.size w w' := iCountCycleWords t p k w h.1 h.2

theorem handed_shaped {H : Type} {enc : TypeId × Value → H} {a : Assume} {C : Checked} {os : Os} {f : FuncId} {fn : Func} {s : ChangeSpec} {conds : List PathCond} {apart fresh handsOn again : Bool} {X : World → Array Value → Prop}
    (hX : ∀ (w w' : World) (args : Array Value), w.heap = w'.heap → X w args → X w' args)
    (own : ownKnob C.prog.godebug = none) (started : os.Started) (noInit : C.prog.inits.idxOf? f = none) (hfn : C.prog.funcs[f]? = some fn)
    (witness : ∃ (w : World) (tape : Tape) (i : Input), w.os = os ∧ (w.forCall tape i).Shaped C.prog ∧ i.vars = [] ∧ Input.okWide C.prog (w.forCall tape i) .any w.heap.size f i ∧
      ((s.pre enc C.prog fn conds apart (w.forCall tape i).memory i.args ∧ X (w.forCall tape i).memory i.args) ∧ sizedMet enc C.prog fn (OpenSpec.ofChange s) apart (w.forCall tape i).memory i.args) ∧ a.holds C.prog (lone (Frame.enter C.prog f i.args .normal) [] (w.forCall tape i)))
    (contract : ∀ (W : World) (base : Nat) (args : Array Value) (ds gs : List (DataW H)) (before : List MemPlace),
      (∀ (j : Nat) t v, fn.params[j]? = some t → args[j]? = some v → Value.okWide C.prog W .any base t v) →
      DataW.Whole enc C.prog fn.params.toList s.vars apart W args.toList ds gs before →
      X W args → W.ShapedOpen C.prog →
      Calls C.prog f args W fun e W' => ∃ v, e = .returned v ∧ s.post enc C.prog fn apart fresh handsOn again W args v W') :
    ReturnsInHanded a C os f .any (fun w args => (s.pre enc C.prog fn conds apart w args ∧ X w args) ∧ sizedMet enc C.prog fn (OpenSpec.ofChange s) apart w args) (s.post enc C.prog fn apart fresh handsOn again) := by
  refine returnsInHanded_of_calls own started noInit witness fun w tape i _ hsh _ hok hpre _ => ?_
  obtain ⟨⟨⟨ds, gs, before, hw, _⟩, hx⟩, _⟩ := hpre
  obtain ⟨_, _, _, fn', hfn', _, _, _, _, hval⟩ := hok
  obtain rfl : fn' = fn := Option.some.inj (hfn'.symm.trans hfn)
  refine (contract (w.forCall tape i) w.heap.size i.args ds gs before hval (DataW.Whole.of_heap (w' := w.forCall tape i) (by rfl) hw) (hX _ _ _ (by rfl) hx) hsh).mono ?_
  rintro e W' ⟨v, rfl, hp⟩
  exact ChangeSpec.post_blind hp
end Go.Proofs.YtnhpoefhcngoaaaDoor
