/-
  DERIVED. GIVEN WITH THE SEED: THE CARDS: each row of YtmpppdbomdepoaaGreatDoorRows.lean that lists a variable, with what it lists TIED to the program's text (the seventh form; the later family's looks); each row that meets fmt, with fmt's text TOLD by the authors' own Lean function (tested against real Go, not proved from fmt's source: count such statements apart). THE CARD IS WHAT COUNTS. Prove the row's statement (the work); the ties are given (YtmpppdbomdepoaaGreatDoorTie.lean); close each card by the builder's one call (the guide's Derived/Test/ToyasCard.lean, 'card_holds'). Laid BY PROGRAM, IN A SANDBOX (cutbox-door.mjs). By AI agents, Wed Nov 11 2026. No macro, syntax, notation, axiom, sorry.
-/
import Derived.Test.YtmpppdbomdepoaaGreatDoorRows
import GoSem.ClaimSeven
namespace Go.Proofs.YtmpppdbomdepoaaGreatDoor
namespace Rows

/-- THE TIED CARD OF 'toolchestlaw06.SortsMerges'. -/
def sortsMergesCard : Claim7 := { stood := { row := sortsMergesRow, standIns := [], harness := (true, "7eb658d08b321512326bc507bb4b34b0e0ec874ff195d296884785a56bc40fc8"), looks := true }, kinds := [], alts := [], laidByText := true, laidKinds := [.data, .data, .data, .data, .pinned], laidTests := true, laidLooks := .later }
def SortsMergesCardSaid : Prop := Claim7.holds Tryz.pinned (.plain (OpenSpec.ofChange sortsMergesSpec)) sortsMergesCard

/-- THE TIED CARD OF 'toolchestlaw06.SortsComm'. -/
def sortsCommCard : Claim7 := { stood := { row := sortsCommRow, standIns := [], harness := (true, "7eb658d08b321512326bc507bb4b34b0e0ec874ff195d296884785a56bc40fc8"), looks := true }, kinds := [], alts := [], laidByText := true, laidKinds := [.data, .pinned], laidTests := true, laidLooks := .later }
def SortsCommCardSaid : Prop := Claim7.holds Tryz.pinned (.plain (OpenSpec.ofChange sortsCommSpec)) sortsCommCard

/-- THE SECOND FORM's CARD OF 'toolchestlaw06.SortsMerges'. -/
def sortsMergesUptoCard : Claim7 := { stood := { row := sortsMergesUptoRow, standIns := [], harness := (true, "7eb658d08b321512326bc507bb4b34b0e0ec874ff195d296884785a56bc40fc8"), looks := true }, kinds := [], alts := [], laidByText := true, laidKinds := [.data, .data, .data, .data, .pinned], laidTests := true, laidLooks := .later }
def SortsMergesUptoCardSaid : Prop := Claim7.holds Tryz.pinned (.plain (OpenSpec.upto sortsMergesSpec)) sortsMergesUptoCard

/-- THE SECOND FORM's CARD OF 'toolchestlaw06.SortsComm'. -/
def sortsCommUptoCard : Claim7 := { stood := { row := sortsCommUptoRow, standIns := [], harness := (true, "7eb658d08b321512326bc507bb4b34b0e0ec874ff195d296884785a56bc40fc8"), looks := true }, kinds := [], alts := [], laidByText := true, laidKinds := [.data, .pinned], laidTests := true, laidLooks := .later }
def SortsCommUptoCardSaid : Prop := Claim7.holds Tryz.pinned (.plain (OpenSpec.upto sortsCommSpec)) sortsCommUptoCard
end Rows
end Go.Proofs.YtmpppdbomdepoaaGreatDoor
