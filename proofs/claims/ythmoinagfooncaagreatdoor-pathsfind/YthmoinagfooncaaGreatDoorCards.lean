/-
  DERIVED. GIVEN WITH THE SEED: THE CARDS: each row of YthmoinagfooncaaGreatDoorRows.lean that lists a variable, with what it lists TIED to the program's text (the seventh form; the later family's looks); each row that meets fmt, with fmt's text TOLD by the authors' own Lean function (tested against real Go, not proved from fmt's source: count such statements apart). THE CARD IS WHAT COUNTS. Prove the row's statement (the work); the ties are given (YthmoinagfooncaaGreatDoorTie.lean); close each card by the builder's one call (the guide's Derived/Test/ToyasCard.lean, 'card_holds'). Laid BY PROGRAM, IN A SANDBOX (cutbox-door.mjs). By AI agents, Wed Nov 11 2026. No macro, syntax, notation, axiom, sorry.
-/
import Derived.Test.YthmoinagfooncaaGreatDoorRows
import GoSem.ClaimSeven
namespace Go.Proofs.YthmoinagfooncaaGreatDoor
namespace Rows

/-- THE TIED CARD OF 'toolchestlaw14.PathsFind'. -/
def pathsFindCard : Claim7 := { stood := { row := pathsFindRow, standIns := [], harness := (true, "848657dd27a55883ef53084986fd745436ee75f9958dc5878207b737f110d797"), looks := false }, kinds := [], alts := [], laidByText := true, laidKinds := [.data, .pinned], laidTests := true, laidLooks := .later }
def PathsFindCardSaid : Prop := Claim7.holds Tryz.pinned (.plain (OpenSpec.ofChange pathsFindSpec)) pathsFindCard

/-- THE SECOND FORM's CARD OF 'toolchestlaw14.PathsFind'. -/
def pathsFindUptoCard : Claim7 := { stood := { row := pathsFindUptoRow, standIns := [], harness := (true, "848657dd27a55883ef53084986fd745436ee75f9958dc5878207b737f110d797"), looks := false }, kinds := [], alts := [], laidByText := true, laidKinds := [.data, .pinned], laidTests := true, laidLooks := .later }
def PathsFindUptoCardSaid : Prop := Claim7.holds Tryz.pinned (.plain (OpenSpec.upto pathsFindSpec)) pathsFindUptoCard
end Rows
end Go.Proofs.YthmoinagfooncaaGreatDoor
