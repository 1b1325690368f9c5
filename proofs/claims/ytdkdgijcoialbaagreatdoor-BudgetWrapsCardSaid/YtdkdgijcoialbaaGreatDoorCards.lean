/-
  DERIVED. GIVEN WITH THE SEED: THE CARDS: each row of YtdkdgijcoialbaaGreatDoorRows.lean that lists a variable, with what it lists TIED to the program's text (the seventh form; the later family's looks); each row that meets fmt, with fmt's text TOLD by the authors' own Lean function (tested against real Go, not proved from fmt's source: count such statements apart). THE CARD IS WHAT COUNTS. Prove the row's statement (the work); the ties are given (YtdkdgijcoialbaaGreatDoorTie.lean); close each card by the builder's one call (the guide's Derived/Test/ToyasCard.lean, 'card_holds'). Laid BY PROGRAM, IN A SANDBOX (cutbox-door.mjs). By AI agents, Wed Nov 11 2026. No macro, syntax, notation, axiom, sorry.
-/
import Derived.Test.YtdkdgijcoialbaaGreatDoorRows
import GoSem.ClaimSeven
namespace Go.Proofs.YtdkdgijcoialbaaGreatDoor
namespace Rows

/-- THE TIED CARD OF 'alidadelaw11.BudgetWraps'. -/
def budgetWrapsCard : Claim7 := { stood := { row := budgetWrapsRow, standIns := [], harness := (true, "45ee24e1c1ffb7cc0b5a8f26e4917131d699745d2bde56211bdbf813704e9ff0"), looks := true }, kinds := [], alts := [], laidByText := true, laidKinds := [.data, .data, .data, .handle], laidTests := true, laidLooks := .later }
def BudgetWrapsCardSaid : Prop := Claim7.holds Tryz.pinned (.plain (OpenSpec.ofChange budgetWrapsSpec)) budgetWrapsCard

/-- THE SECOND FORM's CARD OF 'alidadelaw11.BudgetWraps'. -/
def budgetWrapsUptoCard : Claim7 := { stood := { row := budgetWrapsUptoRow, standIns := [], harness := (true, "45ee24e1c1ffb7cc0b5a8f26e4917131d699745d2bde56211bdbf813704e9ff0"), looks := true }, kinds := [], alts := [], laidByText := true, laidKinds := [.data, .data, .data, .handle], laidTests := true, laidLooks := .later }
def BudgetWrapsUptoCardSaid : Prop := Claim7.holds Tryz.pinned (.plain (OpenSpec.upto budgetWrapsSpec)) budgetWrapsUptoCard
end Rows
end Go.Proofs.YtdkdgijcoialbaaGreatDoor
