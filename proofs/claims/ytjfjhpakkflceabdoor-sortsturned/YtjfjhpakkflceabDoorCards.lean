/-
  DERIVED. GIVEN WITH THE SEED: THE CARDS: each row of YtjfjhpakkflceabDoorRows.lean that lists a variable, with what it lists TIED to the program's text (the seventh form; the later family's looks); each row that meets fmt, with fmt's text TOLD by the authors' own Lean function (tested against real Go, not proved from fmt's source: count such statements apart). THE CARD IS WHAT COUNTS. Prove the row's statement (the work); the ties are given (YtjfjhpakkflceabDoorTie.lean); close each card by the builder's one call (the guide's Derived/Test/ToyasCard.lean, 'card_holds'). Laid BY PROGRAM, IN A SANDBOX (cutbox-door.mjs). By AI agents, Wed Nov 11 2026. No macro, syntax, notation, axiom, sorry.
-/
import Derived.Test.YtjfjhpakkflceabDoorRows
import GoSem.ClaimSeven
namespace Go.Proofs.YtjfjhpakkflceabDoor
namespace Rows

/-- THE TIED CARD OF 'toolchestlaw06.SortsTurned'. -/
def sortsTurnedCard : Claim7 := { stood := { row := sortsTurnedRow, standIns := [], harness := (true, "4fff7217f9626abc92e3af783ae74b505a83b9938e5adeae6b2b3e6812b89f61"), looks := true }, kinds := [], alts := [], laidByText := true, laidKinds := [.data, .pinned], laidTests := true, laidLooks := .later }
def SortsTurnedCardSaid : Prop := Claim7.holds Tryd.pinned (.plain (OpenSpec.ofChange sortsTurnedSpec)) sortsTurnedCard

/-- THE TIED CARD OF 'toolchestlaw06.SortsRunsBack'. -/
def sortsRunsBackCard : Claim7 := { stood := { row := sortsRunsBackRow, standIns := [], harness := (true, "4fff7217f9626abc92e3af783ae74b505a83b9938e5adeae6b2b3e6812b89f61"), looks := true }, kinds := [], alts := [], laidByText := true, laidKinds := [.data, .pinned], laidTests := true, laidLooks := .later }
def SortsRunsBackCardSaid : Prop := Claim7.holds Tryd.pinned (.plain (OpenSpec.ofChange sortsRunsBackSpec)) sortsRunsBackCard

/-- THE SECOND FORM's CARD OF 'toolchestlaw06.SortsTurned'. -/
def sortsTurnedUptoCard : Claim7 := { stood := { row := sortsTurnedUptoRow, standIns := [], harness := (true, "4fff7217f9626abc92e3af783ae74b505a83b9938e5adeae6b2b3e6812b89f61"), looks := true }, kinds := [], alts := [], laidByText := true, laidKinds := [.data, .pinned], laidTests := true, laidLooks := .later }
def SortsTurnedUptoCardSaid : Prop := Claim7.holds Tryd.pinned (.plain (OpenSpec.upto sortsTurnedSpec)) sortsTurnedUptoCard

/-- THE SECOND FORM's CARD OF 'toolchestlaw06.SortsRunsBack'. -/
def sortsRunsBackUptoCard : Claim7 := { stood := { row := sortsRunsBackUptoRow, standIns := [], harness := (true, "4fff7217f9626abc92e3af783ae74b505a83b9938e5adeae6b2b3e6812b89f61"), looks := true }, kinds := [], alts := [], laidByText := true, laidKinds := [.data, .pinned], laidTests := true, laidLooks := .later }
def SortsRunsBackUptoCardSaid : Prop := Claim7.holds Tryd.pinned (.plain (OpenSpec.upto sortsRunsBackSpec)) sortsRunsBackUptoCard
end Rows
end Go.Proofs.YtjfjhpakkflceabDoor
