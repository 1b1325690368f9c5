/-
  DERIVED. GIVEN WITH THE SEED: THE CARDS: each row of YtileljokijmpaaaDoorRows.lean that lists a variable, with what it lists TIED to the program's text (the seventh form; the later family's looks); each row that meets fmt, with fmt's text TOLD by the authors' own Lean function (tested against real Go, not proved from fmt's source: count such statements apart). THE CARD IS WHAT COUNTS. Prove the row's statement (the work); the ties are given (YtileljokijmpaaaDoorTie.lean); close each card by the builder's one call (the guide's Derived/Test/ToyasCard.lean, 'card_holds'). Laid BY PROGRAM, IN A SANDBOX (cutbox-door.mjs). By AI agents, Wed Nov 11 2026. No macro, syntax, notation, axiom, sorry.
-/
import Derived.Test.YtileljokijmpaaaDoorRows
import GoSem.ClaimSeven
namespace Go.Proofs.YtileljokijmpaaaDoor
namespace Rows

/-- THE TIED CARD OF 'alidadelaw04.DecNames'. -/
def decNamesCard : Claim7 := { stood := { row := decNamesRow, standIns := [], harness := (true, "3c3f784a4ead2f282badeb38d8899f62d5a746959156ea7eba91f422c2071c35"), looks := false }, kinds := [], alts := [], laidByText := true, laidKinds := [.data, .pinned], laidTests := true, laidLooks := .later }
def DecNamesCardSaid : Prop := Claim7.holds Tryd.pinned (.plain (OpenSpec.ofChange decNamesSpec)) decNamesCard

/-- THE TIED CARD OF 'alidadelaw04.DecTells'. -/
def decTellsCard : Claim7 := { stood := { row := decTellsRow, standIns := [], harness := (true, "3c3f784a4ead2f282badeb38d8899f62d5a746959156ea7eba91f422c2071c35"), looks := false }, kinds := [], alts := [], laidByText := true, laidKinds := [.data, .pinned], laidTests := true, laidLooks := .later }
def DecTellsCardSaid : Prop := Claim7.holds Tryd.pinned (.plain (OpenSpec.ofChange decTellsSpec)) decTellsCard

/-- THE TIED CARD OF 'alidadelaw04.DecSplits'. -/
def decSplitsCard : Claim7 := { stood := { row := decSplitsRow, standIns := [], harness := (true, "3c3f784a4ead2f282badeb38d8899f62d5a746959156ea7eba91f422c2071c35"), looks := false }, kinds := [], alts := [], laidByText := true, laidKinds := [.data, .pinned], laidTests := true, laidLooks := .later }
def DecSplitsCardSaid : Prop := Claim7.holds Tryd.pinned (.plain (OpenSpec.ofChange decSplitsSpec)) decSplitsCard

/-- THE SECOND FORM's CARD OF 'alidadelaw04.DecNames'. -/
def decNamesUptoCard : Claim7 := { stood := { row := decNamesUptoRow, standIns := [], harness := (true, "3c3f784a4ead2f282badeb38d8899f62d5a746959156ea7eba91f422c2071c35"), looks := false }, kinds := [], alts := [], laidByText := true, laidKinds := [.data, .pinned], laidTests := true, laidLooks := .later }
def DecNamesUptoCardSaid : Prop := Claim7.holds Tryd.pinned (.plain (OpenSpec.upto decNamesSpec)) decNamesUptoCard

/-- THE SECOND FORM's CARD OF 'alidadelaw04.DecTells'. -/
def decTellsUptoCard : Claim7 := { stood := { row := decTellsUptoRow, standIns := [], harness := (true, "3c3f784a4ead2f282badeb38d8899f62d5a746959156ea7eba91f422c2071c35"), looks := false }, kinds := [], alts := [], laidByText := true, laidKinds := [.data, .pinned], laidTests := true, laidLooks := .later }
def DecTellsUptoCardSaid : Prop := Claim7.holds Tryd.pinned (.plain (OpenSpec.upto decTellsSpec)) decTellsUptoCard

/-- THE SECOND FORM's CARD OF 'alidadelaw04.DecSplits'. -/
def decSplitsUptoCard : Claim7 := { stood := { row := decSplitsUptoRow, standIns := [], harness := (true, "3c3f784a4ead2f282badeb38d8899f62d5a746959156ea7eba91f422c2071c35"), looks := false }, kinds := [], alts := [], laidByText := true, laidKinds := [.data, .pinned], laidTests := true, laidLooks := .later }
def DecSplitsUptoCardSaid : Prop := Claim7.holds Tryd.pinned (.plain (OpenSpec.upto decSplitsSpec)) decSplitsUptoCard
end Rows
end Go.Proofs.YtileljokijmpaaaDoor
