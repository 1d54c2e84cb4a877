/-
  DERIVED. GIVEN WITH THE SEED: THE CARDS: each row of YtijknodbaddelabDoorRows.lean that lists a variable, with what it lists TIED to the program's text (the seventh form; the later family's looks); each row that meets fmt, with fmt's text TOLD by the authors' own Lean function (tested against real Go, not proved from fmt's source: count such statements apart). THE CARD IS WHAT COUNTS. Prove the row's statement (the work); the ties are given (YtijknodbaddelabDoorTie.lean); close each card by the builder's one call (the guide's Derived/Test/ToyasCard.lean, 'card_holds'). Laid BY PROGRAM, IN A SANDBOX (cutbox-door.mjs). By AI agents, Wed Nov 11 2026. No macro, syntax, notation, axiom, sorry.
-/
import Derived.Test.YtijknodbaddelabDoorRows
import GoSem.ClaimSeven
namespace Go.Proofs.YtijknodbaddelabDoor
namespace Rows

/-- THE TIED CARD OF 'toolchestlaw10.ModesOne'. -/
def modesOneCard : Claim7 := { stood := { row := modesOneRow, standIns := [], harness := (true, "27a4a28dbc4f1cd83b310d681934b89fa2c1e5c30eef6186899b0952b64dd2cf"), looks := false }, kinds := [], alts := [], laidByText := true, laidKinds := [.data, .pinned], laidTests := true, laidLooks := .later }
def ModesOneCardSaid : Prop := Claim7.holds Tryd.pinned (.plain (OpenSpec.ofChange modesOneSpec)) modesOneCard

/-- THE TIED CARD OF 'toolchestlaw10.ModesMask'. -/
def modesMaskCard : Claim7 := { stood := { row := modesMaskRow, standIns := [], harness := (true, "27a4a28dbc4f1cd83b310d681934b89fa2c1e5c30eef6186899b0952b64dd2cf"), looks := false }, kinds := [], alts := [], laidByText := true, laidKinds := [.data, .pinned], laidTests := true, laidLooks := .later }
def ModesMaskCardSaid : Prop := Claim7.holds Tryd.pinned (.plain (OpenSpec.ofChange modesMaskSpec)) modesMaskCard

/-- THE TIED CARD OF 'toolchestlaw10.ModesJoins'. -/
def modesJoinsCard : Claim7 := { stood := { row := modesJoinsRow, standIns := [], harness := (true, "27a4a28dbc4f1cd83b310d681934b89fa2c1e5c30eef6186899b0952b64dd2cf"), looks := false }, kinds := [], alts := [], laidByText := true, laidKinds := [.data, .pinned], laidTests := true, laidLooks := .later }
def ModesJoinsCardSaid : Prop := Claim7.holds Tryd.pinned (.plain (OpenSpec.ofChange modesJoinsSpec)) modesJoinsCard

/-- THE SECOND FORM's CARD OF 'toolchestlaw10.ModesOne'. -/
def modesOneUptoCard : Claim7 := { stood := { row := modesOneUptoRow, standIns := [], harness := (true, "27a4a28dbc4f1cd83b310d681934b89fa2c1e5c30eef6186899b0952b64dd2cf"), looks := false }, kinds := [], alts := [], laidByText := true, laidKinds := [.data, .pinned], laidTests := true, laidLooks := .later }
def ModesOneUptoCardSaid : Prop := Claim7.holds Tryd.pinned (.plain (OpenSpec.upto modesOneSpec)) modesOneUptoCard

/-- THE SECOND FORM's CARD OF 'toolchestlaw10.ModesMask'. -/
def modesMaskUptoCard : Claim7 := { stood := { row := modesMaskUptoRow, standIns := [], harness := (true, "27a4a28dbc4f1cd83b310d681934b89fa2c1e5c30eef6186899b0952b64dd2cf"), looks := false }, kinds := [], alts := [], laidByText := true, laidKinds := [.data, .pinned], laidTests := true, laidLooks := .later }
def ModesMaskUptoCardSaid : Prop := Claim7.holds Tryd.pinned (.plain (OpenSpec.upto modesMaskSpec)) modesMaskUptoCard

/-- THE SECOND FORM's CARD OF 'toolchestlaw10.ModesJoins'. -/
def modesJoinsUptoCard : Claim7 := { stood := { row := modesJoinsUptoRow, standIns := [], harness := (true, "27a4a28dbc4f1cd83b310d681934b89fa2c1e5c30eef6186899b0952b64dd2cf"), looks := false }, kinds := [], alts := [], laidByText := true, laidKinds := [.data, .pinned], laidTests := true, laidLooks := .later }
def ModesJoinsUptoCardSaid : Prop := Claim7.holds Tryd.pinned (.plain (OpenSpec.upto modesJoinsSpec)) modesJoinsUptoCard
end Rows
end Go.Proofs.YtijknodbaddelabDoor
