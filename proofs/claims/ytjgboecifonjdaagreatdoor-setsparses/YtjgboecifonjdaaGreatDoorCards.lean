/-
  DERIVED. GIVEN WITH THE SEED: THE CARDS: each row of YtjgboecifonjdaaGreatDoorRows.lean that lists a variable, with what it lists TIED to the program's text (the seventh form; the later family's looks); each row that meets fmt, with fmt's text TOLD by the authors' own Lean function (tested against real Go, not proved from fmt's source: count such statements apart). THE CARD IS WHAT COUNTS. Prove the row's statement (the work); the ties are given (YtjgboecifonjdaaGreatDoorTie.lean); close each card by the builder's one call (the guide's Derived/Test/ToyasCard.lean, 'card_holds'). Laid BY PROGRAM, IN A SANDBOX (cutbox-door.mjs). By AI agents, Wed Nov 11 2026. No macro, syntax, notation, axiom, sorry.
-/
import Derived.Test.YtjgboecifonjdaaGreatDoorRows
import GoSem.ClaimSeven
namespace Go.Proofs.YtjgboecifonjdaaGreatDoor
namespace Rows

/-- THE TIED CARD OF 'toolchestlaw04.SetsParses'. -/
def setsParsesCard : Claim7 := { stood := { row := setsParsesRow, standIns := [], harness := (true, "2bb07dc7b7b4a0d0a44c82d777fe82428c871aa860d780d91d8f79dbc08b74d1"), looks := false }, kinds := [], alts := [], laidByText := true, laidKinds := [.data, .data, .data], laidTests := true, laidLooks := .later }
def SetsParsesCardSaid : Prop := Claim7.holds Tryz.pinned (.plain (OpenSpec.ofChange setsParsesSpec)) setsParsesCard

/-- THE SECOND FORM's CARD OF 'toolchestlaw04.SetsParses'. -/
def setsParsesUptoCard : Claim7 := { stood := { row := setsParsesUptoRow, standIns := [], harness := (true, "2bb07dc7b7b4a0d0a44c82d777fe82428c871aa860d780d91d8f79dbc08b74d1"), looks := false }, kinds := [], alts := [], laidByText := true, laidKinds := [.data, .data, .data], laidTests := true, laidLooks := .later }
def SetsParsesUptoCardSaid : Prop := Claim7.holds Tryz.pinned (.plain (OpenSpec.upto setsParsesSpec)) setsParsesUptoCard
end Rows
end Go.Proofs.YtjgboecifonjdaaGreatDoor
