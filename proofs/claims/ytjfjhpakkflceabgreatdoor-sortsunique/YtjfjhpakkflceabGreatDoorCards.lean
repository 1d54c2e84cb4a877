/-
  DERIVED. GIVEN WITH THE SEED: THE CARDS: each row of YtjfjhpakkflceabGreatDoorRows.lean that lists a variable, with what it lists TIED to the program's text (the seventh form; the later family's looks); each row that meets fmt, with fmt's text TOLD by the authors' own Lean function (tested against real Go, not proved from fmt's source: count such statements apart). THE CARD IS WHAT COUNTS. Prove the row's statement (the work); the ties are given (YtjfjhpakkflceabGreatDoorTie.lean); close each card by the builder's one call (the guide's Derived/Test/ToyasCard.lean, 'card_holds'). Laid BY PROGRAM, IN A SANDBOX (cutbox-door.mjs). By AI agents, Wed Nov 11 2026. No macro, syntax, notation, axiom, sorry.
-/
import Derived.Test.YtjfjhpakkflceabGreatDoorRows
import GoSem.ClaimSeven
namespace Go.Proofs.YtjfjhpakkflceabGreatDoor
namespace Rows

/-- THE TIED CARD OF 'toolchestlaw06.SortsUnique'. -/
def sortsUniqueCard : Claim7 := { stood := { row := sortsUniqueRow, standIns := [], harness := (true, "4ff73bf50837551077e8d51127bf444d43816276159fa9fb586537c5713bcb69"), looks := true }, kinds := [], alts := [], laidByText := true, laidKinds := [.data, .pinned], laidTests := true, laidLooks := .later }
def SortsUniqueCardSaid : Prop := Claim7.holds Tryz.pinned (.plain (OpenSpec.ofChange sortsUniqueSpec)) sortsUniqueCard

/-- THE TIED CARD OF 'toolchestlaw06.SortsMerged'. -/
def sortsMergedCard : Claim7 := { stood := { row := sortsMergedRow, standIns := [], harness := (true, "4ff73bf50837551077e8d51127bf444d43816276159fa9fb586537c5713bcb69"), looks := true }, kinds := [], alts := [], laidByText := true, laidKinds := [.data, .pinned], laidTests := true, laidLooks := .later }
def SortsMergedCardSaid : Prop := Claim7.holds Tryz.pinned (.plain (OpenSpec.ofChange sortsMergedSpec)) sortsMergedCard

/-- THE TIED CARD OF 'toolchestlaw06.SortsComm'. -/
def sortsCommCard : Claim7 := { stood := { row := sortsCommRow, standIns := [], harness := (true, "4ff73bf50837551077e8d51127bf444d43816276159fa9fb586537c5713bcb69"), looks := true }, kinds := [], alts := [], laidByText := true, laidKinds := [.data, .pinned], laidTests := true, laidLooks := .later }
def SortsCommCardSaid : Prop := Claim7.holds Tryz.pinned (.plain (OpenSpec.ofChange sortsCommSpec)) sortsCommCard

/-- THE SECOND FORM's CARD OF 'toolchestlaw06.SortsUnique'. -/
def sortsUniqueUptoCard : Claim7 := { stood := { row := sortsUniqueUptoRow, standIns := [], harness := (true, "4ff73bf50837551077e8d51127bf444d43816276159fa9fb586537c5713bcb69"), looks := true }, kinds := [], alts := [], laidByText := true, laidKinds := [.data, .pinned], laidTests := true, laidLooks := .later }
def SortsUniqueUptoCardSaid : Prop := Claim7.holds Tryz.pinned (.plain (OpenSpec.upto sortsUniqueSpec)) sortsUniqueUptoCard

/-- THE SECOND FORM's CARD OF 'toolchestlaw06.SortsMerged'. -/
def sortsMergedUptoCard : Claim7 := { stood := { row := sortsMergedUptoRow, standIns := [], harness := (true, "4ff73bf50837551077e8d51127bf444d43816276159fa9fb586537c5713bcb69"), looks := true }, kinds := [], alts := [], laidByText := true, laidKinds := [.data, .pinned], laidTests := true, laidLooks := .later }
def SortsMergedUptoCardSaid : Prop := Claim7.holds Tryz.pinned (.plain (OpenSpec.upto sortsMergedSpec)) sortsMergedUptoCard

/-- THE SECOND FORM's CARD OF 'toolchestlaw06.SortsComm'. -/
def sortsCommUptoCard : Claim7 := { stood := { row := sortsCommUptoRow, standIns := [], harness := (true, "4ff73bf50837551077e8d51127bf444d43816276159fa9fb586537c5713bcb69"), looks := true }, kinds := [], alts := [], laidByText := true, laidKinds := [.data, .pinned], laidTests := true, laidLooks := .later }
def SortsCommUptoCardSaid : Prop := Claim7.holds Tryz.pinned (.plain (OpenSpec.upto sortsCommSpec)) sortsCommUptoCard
end Rows
end Go.Proofs.YtjfjhpakkflceabGreatDoor
