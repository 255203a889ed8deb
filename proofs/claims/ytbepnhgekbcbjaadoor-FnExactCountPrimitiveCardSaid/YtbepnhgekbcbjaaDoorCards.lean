/-
  DERIVED. GIVEN WITH THE SEED: THE CARDS: each row of YtbepnhgekbcbjaaDoorRows.lean that lists a variable, with what it lists TIED to the program's text (the seventh form; the later family's looks); each row that meets fmt, with fmt's text TOLD by the authors' own Lean function (tested against real Go, not proved from fmt's source: count such statements apart). THE CARD IS WHAT COUNTS. Prove the row's statement (the work); the ties are given (YtbepnhgekbcbjaaDoorTie.lean); close each card by the builder's one call (the guide's Derived/Test/ToyasCard.lean, 'card_holds'). Laid BY PROGRAM, IN A SANDBOX (cutbox-door.mjs). By AI agents, Wed Nov 11 2026. No macro, syntax, notation, axiom, sorry.
-/
import Derived.Test.YtbepnhgekbcbjaaDoorRows
import GoSem.ClaimSeven
namespace Go.Proofs.YtbepnhgekbcbjaaDoor
namespace Rows

/-- THE TIED CARD OF 'laws.FnExactCycleWords'. -/
def fnExactCycleWordsCard : Claim7 := { stood := { row := fnExactCycleWordsRow, standIns := [], harness := (true, "75a000090f3885bbce029f8f5030632f5a5e423ad912c03d709e655dd664f232"), looks := false }, kinds := [], alts := [], laidByText := true, laidKinds := [.data], laidTests := true, laidLooks := .later }
def FnExactCycleWordsCardSaid : Prop := Claim7.holds Tryd.pinned (.plain (OpenSpec.ofChange fnExactCycleWordsSpec)) fnExactCycleWordsCard

/-- THE TIED CARD OF 'laws.FnExactCountCycleWords'. -/
def fnExactCountCycleWordsCard : Claim7 := { stood := { row := fnExactCountCycleWordsRow, standIns := [], harness := (true, "75a000090f3885bbce029f8f5030632f5a5e423ad912c03d709e655dd664f232"), looks := false }, kinds := [], alts := [], laidByText := true, laidKinds := [.data], laidTests := true, laidLooks := .later }
def FnExactCountCycleWordsCardSaid : Prop := Claim7.holds Tryd.pinned (.plain (OpenSpec.ofChange fnExactCountCycleWordsSpec)) fnExactCountCycleWordsCard

/-- THE TIED CARD OF 'laws.FnExactCountPrimitive'. -/
def fnExactCountPrimitiveCard : Claim7 := { stood := { row := fnExactCountPrimitiveRow, standIns := [], harness := (true, "75a000090f3885bbce029f8f5030632f5a5e423ad912c03d709e655dd664f232"), looks := false }, kinds := [], alts := [], laidByText := true, laidKinds := [.data], laidTests := true, laidLooks := .later }
def FnExactCountPrimitiveCardSaid : Prop := Claim7.holds Tryd.pinned (.plain (OpenSpec.ofChange fnExactCountPrimitiveSpec)) fnExactCountPrimitiveCard

/-- THE SECOND FORM's CARD OF 'laws.FnExactCycleWords'. -/
def fnExactCycleWordsUptoCard : Claim7 := { stood := { row := fnExactCycleWordsUptoRow, standIns := [], harness := (true, "75a000090f3885bbce029f8f5030632f5a5e423ad912c03d709e655dd664f232"), looks := false }, kinds := [], alts := [], laidByText := true, laidKinds := [.data], laidTests := true, laidLooks := .later }
def FnExactCycleWordsUptoCardSaid : Prop := Claim7.holds Tryd.pinned (.plain (OpenSpec.upto fnExactCycleWordsSpec)) fnExactCycleWordsUptoCard

/-- THE SECOND FORM's CARD OF 'laws.FnExactCountCycleWords'. -/
def fnExactCountCycleWordsUptoCard : Claim7 := { stood := { row := fnExactCountCycleWordsUptoRow, standIns := [], harness := (true, "75a000090f3885bbce029f8f5030632f5a5e423ad912c03d709e655dd664f232"), looks := false }, kinds := [], alts := [], laidByText := true, laidKinds := [.data], laidTests := true, laidLooks := .later }
def FnExactCountCycleWordsUptoCardSaid : Prop := Claim7.holds Tryd.pinned (.plain (OpenSpec.upto fnExactCountCycleWordsSpec)) fnExactCountCycleWordsUptoCard

/-- THE SECOND FORM's CARD OF 'laws.FnExactCountPrimitive'. -/
def fnExactCountPrimitiveUptoCard : Claim7 := { stood := { row := fnExactCountPrimitiveUptoRow, standIns := [], harness := (true, "75a000090f3885bbce029f8f5030632f5a5e423ad912c03d709e655dd664f232"), looks := false }, kinds := [], alts := [], laidByText := true, laidKinds := [.data], laidTests := true, laidLooks := .later }
def FnExactCountPrimitiveUptoCardSaid : Prop := Claim7.holds Tryd.pinned (.plain (OpenSpec.upto fnExactCountPrimitiveSpec)) fnExactCountPrimitiveUptoCard
end Rows
end Go.Proofs.YtbepnhgekbcbjaaDoor
