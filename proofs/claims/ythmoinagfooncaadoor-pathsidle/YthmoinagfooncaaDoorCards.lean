/-
  DERIVED. GIVEN WITH THE SEED: THE CARDS: each row of YthmoinagfooncaaDoorRows.lean that lists a variable, with what it lists TIED to the program's text (the seventh form; the later family's looks); each row that meets fmt, with fmt's text TOLD by the authors' own Lean function (tested against real Go, not proved from fmt's source: count such statements apart). THE CARD IS WHAT COUNTS. Prove the row's statement (the work); the ties are given (YthmoinagfooncaaDoorTie.lean); close each card by the builder's one call (the guide's Derived/Test/ToyasCard.lean, 'card_holds'). Laid BY PROGRAM, IN A SANDBOX (cutbox-door.mjs). By AI agents, Wed Nov 11 2026. No macro, syntax, notation, axiom, sorry.
-/
import Derived.Test.YthmoinagfooncaaDoorRows
import GoSem.ClaimSeven
namespace Go.Proofs.YthmoinagfooncaaDoor
namespace Rows

/-- THE TIED CARD OF 'toolchestlaw14.PathsParts'. -/
def pathsPartsCard : Claim7 := { stood := { row := pathsPartsRow, standIns := [], harness := (true, "4ccfb77e27db30c998b8572f66c4b343692f1c90b2d739f7b179f066e0536655"), looks := false }, kinds := [], alts := [], laidByText := true, laidKinds := [.data, .pinned], laidTests := true, laidLooks := .later }
def PathsPartsCardSaid : Prop := Claim7.holds Tryd.pinned (.plain (OpenSpec.ofChange pathsPartsSpec)) pathsPartsCard

/-- THE TIED CARD OF 'toolchestlaw14.PathsBack'. -/
def pathsBackCard : Claim7 := { stood := { row := pathsBackRow, standIns := [], harness := (true, "4ccfb77e27db30c998b8572f66c4b343692f1c90b2d739f7b179f066e0536655"), looks := false }, kinds := [], alts := [], laidByText := true, laidKinds := [.data, .pinned], laidTests := true, laidLooks := .later }
def PathsBackCardSaid : Prop := Claim7.holds Tryd.pinned (.plain (OpenSpec.ofChange pathsBackSpec)) pathsBackCard

/-- THE TIED CARD OF 'toolchestlaw14.PathsIdle'. -/
def pathsIdleCard : Claim7 := { stood := { row := pathsIdleRow, standIns := [], harness := (true, "4ccfb77e27db30c998b8572f66c4b343692f1c90b2d739f7b179f066e0536655"), looks := false }, kinds := [], alts := [], laidByText := true, laidKinds := [.data, .pinned], laidTests := true, laidLooks := .later }
def PathsIdleCardSaid : Prop := Claim7.holds Tryd.pinned (.plain (OpenSpec.ofChange pathsIdleSpec)) pathsIdleCard

/-- THE TIED CARD OF 'toolchestlaw14.PathsSplit'. -/
def pathsSplitCard : Claim7 := { stood := { row := pathsSplitRow, standIns := [], harness := (true, "4ccfb77e27db30c998b8572f66c4b343692f1c90b2d739f7b179f066e0536655"), looks := false }, kinds := [], alts := [], laidByText := true, laidKinds := [.data, .pinned], laidTests := true, laidLooks := .later }
def PathsSplitCardSaid : Prop := Claim7.holds Tryd.pinned (.plain (OpenSpec.ofChange pathsSplitSpec)) pathsSplitCard

/-- THE SECOND FORM's CARD OF 'toolchestlaw14.PathsParts'. -/
def pathsPartsUptoCard : Claim7 := { stood := { row := pathsPartsUptoRow, standIns := [], harness := (true, "4ccfb77e27db30c998b8572f66c4b343692f1c90b2d739f7b179f066e0536655"), looks := false }, kinds := [], alts := [], laidByText := true, laidKinds := [.data, .pinned], laidTests := true, laidLooks := .later }
def PathsPartsUptoCardSaid : Prop := Claim7.holds Tryd.pinned (.plain (OpenSpec.upto pathsPartsSpec)) pathsPartsUptoCard

/-- THE SECOND FORM's CARD OF 'toolchestlaw14.PathsBack'. -/
def pathsBackUptoCard : Claim7 := { stood := { row := pathsBackUptoRow, standIns := [], harness := (true, "4ccfb77e27db30c998b8572f66c4b343692f1c90b2d739f7b179f066e0536655"), looks := false }, kinds := [], alts := [], laidByText := true, laidKinds := [.data, .pinned], laidTests := true, laidLooks := .later }
def PathsBackUptoCardSaid : Prop := Claim7.holds Tryd.pinned (.plain (OpenSpec.upto pathsBackSpec)) pathsBackUptoCard

/-- THE SECOND FORM's CARD OF 'toolchestlaw14.PathsIdle'. -/
def pathsIdleUptoCard : Claim7 := { stood := { row := pathsIdleUptoRow, standIns := [], harness := (true, "4ccfb77e27db30c998b8572f66c4b343692f1c90b2d739f7b179f066e0536655"), looks := false }, kinds := [], alts := [], laidByText := true, laidKinds := [.data, .pinned], laidTests := true, laidLooks := .later }
def PathsIdleUptoCardSaid : Prop := Claim7.holds Tryd.pinned (.plain (OpenSpec.upto pathsIdleSpec)) pathsIdleUptoCard

/-- THE SECOND FORM's CARD OF 'toolchestlaw14.PathsSplit'. -/
def pathsSplitUptoCard : Claim7 := { stood := { row := pathsSplitUptoRow, standIns := [], harness := (true, "4ccfb77e27db30c998b8572f66c4b343692f1c90b2d739f7b179f066e0536655"), looks := false }, kinds := [], alts := [], laidByText := true, laidKinds := [.data, .pinned], laidTests := true, laidLooks := .later }
def PathsSplitUptoCardSaid : Prop := Claim7.holds Tryd.pinned (.plain (OpenSpec.upto pathsSplitSpec)) pathsSplitUptoCard
end Rows
end Go.Proofs.YthmoinagfooncaaDoor
