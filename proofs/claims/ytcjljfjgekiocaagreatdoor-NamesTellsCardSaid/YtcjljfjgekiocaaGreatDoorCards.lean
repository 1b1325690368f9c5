/-
  DERIVED. GIVEN WITH THE SEED: THE CARDS: each row of YtcjljfjgekiocaaGreatDoorRows.lean that lists a variable, with what it lists TIED to the program's text (the seventh form; the later family's looks); each row that meets fmt, with fmt's text TOLD by the authors' own Lean function (tested against real Go, not proved from fmt's source: count such statements apart). THE CARD IS WHAT COUNTS. Prove the row's statement (the work); the ties are given (YtcjljfjgekiocaaGreatDoorTie.lean); close each card by the builder's one call (the guide's Derived/Test/ToyasCard.lean, 'card_holds'). Laid BY PROGRAM, IN A SANDBOX (cutbox-door.mjs). By AI agents, Wed Nov 11 2026. No macro, syntax, notation, axiom, sorry.
-/
import Derived.Test.YtcjljfjgekiocaaGreatDoorRows
import GoSem.ClaimSeven
namespace Go.Proofs.YtcjljfjgekiocaaGreatDoor
namespace Rows

/-- THE TIED CARD OF 'alidadelaw14.NamesNames'. -/
def namesNamesCard : Claim7 := { stood := { row := namesNamesRow, standIns := [], harness := (true, "66b7eadca4abd60b264a4a706e4553dd01ab8a323b299c50bca34486b652a185"), looks := true }, kinds := [], alts := [], laidByText := true, laidKinds := [.data, .data, .data, .sentinel, .sentinel], laidTests := true, laidLooks := .later }
def NamesNamesCardSaid : Prop := Claim7.holds Tryz.pinned (.plain (OpenSpec.ofChange namesNamesSpec)) namesNamesCard

/-- THE TIED CARD OF 'alidadelaw14.NamesTells'. -/
def namesTellsCard : Claim7 := { stood := { row := namesTellsRow, standIns := [], harness := (true, "66b7eadca4abd60b264a4a706e4553dd01ab8a323b299c50bca34486b652a185"), looks := true }, kinds := [], alts := [], laidByText := true, laidKinds := [.data, .data, .data, .sentinel, .sentinel], laidTests := true, laidLooks := .later }
def NamesTellsCardSaid : Prop := Claim7.holds Tryz.pinned (.plain (OpenSpec.ofChange namesTellsSpec)) namesTellsCard

/-- THE TIED CARD OF 'alidadelaw14.NamesShut'. -/
def namesShutCard : Claim7 := { stood := { row := namesShutRow, standIns := [], harness := (true, "66b7eadca4abd60b264a4a706e4553dd01ab8a323b299c50bca34486b652a185"), looks := true }, kinds := [], alts := [], laidByText := true, laidKinds := [.data, .data, .data, .sentinel, .sentinel], laidTests := true, laidLooks := .later }
def NamesShutCardSaid : Prop := Claim7.holds Tryz.pinned (.plain (OpenSpec.ofChange namesShutSpec)) namesShutCard

/-- THE TIED CARD OF 'alidadelaw14.NamesBack'. -/
def namesBackCard : Claim7 := { stood := { row := namesBackRow, standIns := [], harness := (true, "66b7eadca4abd60b264a4a706e4553dd01ab8a323b299c50bca34486b652a185"), looks := true }, kinds := [], alts := [], laidByText := true, laidKinds := [.data, .data, .data, .sentinel, .sentinel], laidTests := true, laidLooks := .later }
def NamesBackCardSaid : Prop := Claim7.holds Tryz.pinned (.plain (OpenSpec.ofChange namesBackSpec)) namesBackCard

/-- THE TIED CARD OF 'alidadelaw14.NamesOwn'. -/
def namesOwnCard : Claim7 := { stood := { row := namesOwnRow, standIns := [], harness := (true, "66b7eadca4abd60b264a4a706e4553dd01ab8a323b299c50bca34486b652a185"), looks := true }, kinds := [], alts := [], laidByText := true, laidKinds := [.data, .data, .data, .sentinel, .sentinel], laidTests := true, laidLooks := .later }
def NamesOwnCardSaid : Prop := Claim7.holds Tryz.pinned (.plain (OpenSpec.ofChange namesOwnSpec)) namesOwnCard

/-- THE SECOND FORM's CARD OF 'alidadelaw14.NamesNames'. -/
def namesNamesUptoCard : Claim7 := { stood := { row := namesNamesUptoRow, standIns := [], harness := (true, "66b7eadca4abd60b264a4a706e4553dd01ab8a323b299c50bca34486b652a185"), looks := true }, kinds := [], alts := [], laidByText := true, laidKinds := [.data, .data, .data, .sentinel, .sentinel], laidTests := true, laidLooks := .later }
def NamesNamesUptoCardSaid : Prop := Claim7.holds Tryz.pinned (.plain (OpenSpec.upto namesNamesSpec)) namesNamesUptoCard

/-- THE SECOND FORM's CARD OF 'alidadelaw14.NamesTells'. -/
def namesTellsUptoCard : Claim7 := { stood := { row := namesTellsUptoRow, standIns := [], harness := (true, "66b7eadca4abd60b264a4a706e4553dd01ab8a323b299c50bca34486b652a185"), looks := true }, kinds := [], alts := [], laidByText := true, laidKinds := [.data, .data, .data, .sentinel, .sentinel], laidTests := true, laidLooks := .later }
def NamesTellsUptoCardSaid : Prop := Claim7.holds Tryz.pinned (.plain (OpenSpec.upto namesTellsSpec)) namesTellsUptoCard

/-- THE SECOND FORM's CARD OF 'alidadelaw14.NamesShut'. -/
def namesShutUptoCard : Claim7 := { stood := { row := namesShutUptoRow, standIns := [], harness := (true, "66b7eadca4abd60b264a4a706e4553dd01ab8a323b299c50bca34486b652a185"), looks := true }, kinds := [], alts := [], laidByText := true, laidKinds := [.data, .data, .data, .sentinel, .sentinel], laidTests := true, laidLooks := .later }
def NamesShutUptoCardSaid : Prop := Claim7.holds Tryz.pinned (.plain (OpenSpec.upto namesShutSpec)) namesShutUptoCard

/-- THE SECOND FORM's CARD OF 'alidadelaw14.NamesBack'. -/
def namesBackUptoCard : Claim7 := { stood := { row := namesBackUptoRow, standIns := [], harness := (true, "66b7eadca4abd60b264a4a706e4553dd01ab8a323b299c50bca34486b652a185"), looks := true }, kinds := [], alts := [], laidByText := true, laidKinds := [.data, .data, .data, .sentinel, .sentinel], laidTests := true, laidLooks := .later }
def NamesBackUptoCardSaid : Prop := Claim7.holds Tryz.pinned (.plain (OpenSpec.upto namesBackSpec)) namesBackUptoCard

/-- THE SECOND FORM's CARD OF 'alidadelaw14.NamesOwn'. -/
def namesOwnUptoCard : Claim7 := { stood := { row := namesOwnUptoRow, standIns := [], harness := (true, "66b7eadca4abd60b264a4a706e4553dd01ab8a323b299c50bca34486b652a185"), looks := true }, kinds := [], alts := [], laidByText := true, laidKinds := [.data, .data, .data, .sentinel, .sentinel], laidTests := true, laidLooks := .later }
def NamesOwnUptoCardSaid : Prop := Claim7.holds Tryz.pinned (.plain (OpenSpec.upto namesOwnSpec)) namesOwnUptoCard
end Rows
end Go.Proofs.YtcjljfjgekiocaaGreatDoor
