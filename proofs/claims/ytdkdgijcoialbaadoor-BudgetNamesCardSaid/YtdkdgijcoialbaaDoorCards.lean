/-
  DERIVED. GIVEN WITH THE SEED: THE CARDS: each row of YtdkdgijcoialbaaDoorRows.lean that lists a variable, with what it lists TIED to the program's text (the seventh form; the later family's looks); each row that meets fmt, with fmt's text TOLD by the authors' own Lean function (tested against real Go, not proved from fmt's source: count such statements apart). THE CARD IS WHAT COUNTS. Prove the row's statement (the work); the ties are given (YtdkdgijcoialbaaDoorTie.lean); close each card by the builder's one call (the guide's Derived/Test/ToyasCard.lean, 'card_holds'). Laid BY PROGRAM, IN A SANDBOX (cutbox-door.mjs). By AI agents, Wed Nov 11 2026. No macro, syntax, notation, axiom, sorry.
-/
import Derived.Test.YtdkdgijcoialbaaDoorRows
import GoSem.ClaimSeven
namespace Go.Proofs.YtdkdgijcoialbaaDoor
namespace Rows

/-- THE TIED CARD OF 'alidadelaw11.BudgetNames'. -/
def budgetNamesCard : Claim7 := { stood := { row := budgetNamesRow, standIns := [], harness := (true, "a8d88063b88903f14790d7e28ff03fb0b5c77d6f659b61ad59e846d93bb344c3"), looks := true }, kinds := [], alts := [], laidByText := true, laidKinds := [.data, .data, .data, .handle], laidTests := true, laidLooks := .later }
def BudgetNamesCardSaid : Prop := Claim7.holds Tryd.pinned (.plain (OpenSpec.ofChange budgetNamesSpec)) budgetNamesCard

/-- THE TIED CARD OF 'alidadelaw11.BudgetTells'. -/
def budgetTellsCard : Claim7 := { stood := { row := budgetTellsRow, standIns := [], harness := (true, "a8d88063b88903f14790d7e28ff03fb0b5c77d6f659b61ad59e846d93bb344c3"), looks := true }, kinds := [], alts := [], laidByText := true, laidKinds := [.data, .data, .data, .handle], laidTests := true, laidLooks := .later }
def BudgetTellsCardSaid : Prop := Claim7.holds Tryd.pinned (.plain (OpenSpec.ofChange budgetTellsSpec)) budgetTellsCard

/-- THE TIED CARD OF 'alidadelaw11.BudgetJust'. -/
def budgetJustCard : Claim7 := { stood := { row := budgetJustRow, standIns := [], harness := (true, "a8d88063b88903f14790d7e28ff03fb0b5c77d6f659b61ad59e846d93bb344c3"), looks := true }, kinds := [], alts := [], laidByText := true, laidKinds := [.data, .data, .data, .handle], laidTests := true, laidLooks := .later }
def BudgetJustCardSaid : Prop := Claim7.holds Tryd.pinned (.plain (OpenSpec.ofChange budgetJustSpec)) budgetJustCard

/-- THE TIED CARD OF 'alidadelaw11.BudgetFirst'. -/
def budgetFirstCard : Claim7 := { stood := { row := budgetFirstRow, standIns := [], harness := (true, "a8d88063b88903f14790d7e28ff03fb0b5c77d6f659b61ad59e846d93bb344c3"), looks := true }, kinds := [], alts := [], laidByText := true, laidKinds := [.data, .data, .data, .handle], laidTests := true, laidLooks := .later }
def BudgetFirstCardSaid : Prop := Claim7.holds Tryd.pinned (.plain (OpenSpec.ofChange budgetFirstSpec)) budgetFirstCard

/-- THE SECOND FORM's CARD OF 'alidadelaw11.BudgetNames'. -/
def budgetNamesUptoCard : Claim7 := { stood := { row := budgetNamesUptoRow, standIns := [], harness := (true, "a8d88063b88903f14790d7e28ff03fb0b5c77d6f659b61ad59e846d93bb344c3"), looks := true }, kinds := [], alts := [], laidByText := true, laidKinds := [.data, .data, .data, .handle], laidTests := true, laidLooks := .later }
def BudgetNamesUptoCardSaid : Prop := Claim7.holds Tryd.pinned (.plain (OpenSpec.upto budgetNamesSpec)) budgetNamesUptoCard

/-- THE SECOND FORM's CARD OF 'alidadelaw11.BudgetTells'. -/
def budgetTellsUptoCard : Claim7 := { stood := { row := budgetTellsUptoRow, standIns := [], harness := (true, "a8d88063b88903f14790d7e28ff03fb0b5c77d6f659b61ad59e846d93bb344c3"), looks := true }, kinds := [], alts := [], laidByText := true, laidKinds := [.data, .data, .data, .handle], laidTests := true, laidLooks := .later }
def BudgetTellsUptoCardSaid : Prop := Claim7.holds Tryd.pinned (.plain (OpenSpec.upto budgetTellsSpec)) budgetTellsUptoCard

/-- THE SECOND FORM's CARD OF 'alidadelaw11.BudgetJust'. -/
def budgetJustUptoCard : Claim7 := { stood := { row := budgetJustUptoRow, standIns := [], harness := (true, "a8d88063b88903f14790d7e28ff03fb0b5c77d6f659b61ad59e846d93bb344c3"), looks := true }, kinds := [], alts := [], laidByText := true, laidKinds := [.data, .data, .data, .handle], laidTests := true, laidLooks := .later }
def BudgetJustUptoCardSaid : Prop := Claim7.holds Tryd.pinned (.plain (OpenSpec.upto budgetJustSpec)) budgetJustUptoCard

/-- THE SECOND FORM's CARD OF 'alidadelaw11.BudgetFirst'. -/
def budgetFirstUptoCard : Claim7 := { stood := { row := budgetFirstUptoRow, standIns := [], harness := (true, "a8d88063b88903f14790d7e28ff03fb0b5c77d6f659b61ad59e846d93bb344c3"), looks := true }, kinds := [], alts := [], laidByText := true, laidKinds := [.data, .data, .data, .handle], laidTests := true, laidLooks := .later }
def BudgetFirstUptoCardSaid : Prop := Claim7.holds Tryd.pinned (.plain (OpenSpec.upto budgetFirstSpec)) budgetFirstUptoCard
end Rows
end Go.Proofs.YtdkdgijcoialbaaDoor
