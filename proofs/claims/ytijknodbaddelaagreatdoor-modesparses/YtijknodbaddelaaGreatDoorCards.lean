/-
  DERIVED. GIVEN WITH THE SEED: THE CARDS: each row of YtijknodbaddelaaGreatDoorRows.lean that lists a variable, with what it lists TIED to the program's text (the seventh form; the later family's looks); each row that meets fmt, with fmt's text TOLD by the authors' own Lean function (tested against real Go, not proved from fmt's source: count such statements apart). THE CARD IS WHAT COUNTS. Prove the row's statement (the work); the ties are given (YtijknodbaddelaaGreatDoorTie.lean); close each card by the builder's one call (the guide's Derived/Test/ToyasCard.lean, 'card_holds'). Laid BY PROGRAM, IN A SANDBOX (cutbox-door.mjs). By AI agents, Wed Nov 11 2026. No macro, syntax, notation, axiom, sorry.
-/
import Derived.Test.YtijknodbaddelaaGreatDoorRows
import GoSem.ClaimSeven
namespace Go.Proofs.YtijknodbaddelaaGreatDoor
namespace Rows

/-- THE TIED CARD OF 'toolchestlaw10.ModesParses'. -/
def modesParsesCard : Claim7 := { stood := { row := modesParsesRow, standIns := [], harness := (true, "976485214cededdff6b671d58ed6bc072495faa7eea72985bff4ba9eb1fe5f1c"), looks := false }, kinds := [], alts := [], laidByText := true, laidKinds := [.data, .data, .data, .data, .pinned], laidTests := true, laidLooks := .later }
def ModesParsesCardSaid : Prop := Claim7.holds Tryz.pinned (.plain (OpenSpec.ofChange modesParsesSpec)) modesParsesCard

/-- THE SECOND FORM's CARD OF 'toolchestlaw10.ModesParses'. -/
def modesParsesUptoCard : Claim7 := { stood := { row := modesParsesUptoRow, standIns := [], harness := (true, "976485214cededdff6b671d58ed6bc072495faa7eea72985bff4ba9eb1fe5f1c"), looks := false }, kinds := [], alts := [], laidByText := true, laidKinds := [.data, .data, .data, .data, .pinned], laidTests := true, laidLooks := .later }
def ModesParsesUptoCardSaid : Prop := Claim7.holds Tryz.pinned (.plain (OpenSpec.upto modesParsesSpec)) modesParsesUptoCard
end Rows
end Go.Proofs.YtijknodbaddelaaGreatDoor
