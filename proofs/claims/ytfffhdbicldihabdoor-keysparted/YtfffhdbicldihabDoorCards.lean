/-
  DERIVED. GIVEN WITH THE SEED: THE CARDS: each row of YtfffhdbicldihabDoorRows.lean that lists a variable, with what it lists TIED to the program's text (the seventh form; the later family's looks); each row that meets fmt, with fmt's text TOLD by the authors' own Lean function (tested against real Go, not proved from fmt's source: count such statements apart). THE CARD IS WHAT COUNTS. Prove the row's statement (the work); the ties are given (YtfffhdbicldihabDoorTie.lean); close each card by the builder's one call (the guide's Derived/Test/ToyasCard.lean, 'card_holds'). Laid BY PROGRAM, IN A SANDBOX (cutbox-door.mjs). By AI agents, Wed Nov 11 2026. No macro, syntax, notation, axiom, sorry.
-/
import Derived.Test.YtfffhdbicldihabDoorRows
import GoSem.ClaimSeven
namespace Go.Proofs.YtfffhdbicldihabDoor
namespace Rows

/-- THE TIED CARD OF 'toolchestlaw05.KeysParted'. -/
def keysPartedCard : Claim7 := { stood := { row := keysPartedRow, standIns := [], harness := (true, "330d2bdaf5dfde928d3e82b45eb546d70765f22ae7114fdc0e89a7c5bb1ab882"), looks := false }, kinds := [], alts := [], laidByText := true, laidKinds := [.data, .pinned], laidTests := true, laidLooks := .later }
def KeysPartedCardSaid : Prop := Claim7.holds Tryd.pinned (.plain (OpenSpec.ofChange keysPartedSpec)) keysPartedCard

/-- THE TIED CARD OF 'toolchestlaw05.KeysFolds'. -/
def keysFoldsCard : Claim7 := { stood := { row := keysFoldsRow, standIns := [], harness := (true, "330d2bdaf5dfde928d3e82b45eb546d70765f22ae7114fdc0e89a7c5bb1ab882"), looks := false }, kinds := [], alts := [], laidByText := true, laidKinds := [.data, .pinned], laidTests := true, laidLooks := .later }
def KeysFoldsCardSaid : Prop := Claim7.holds Tryd.pinned (.plain (OpenSpec.ofChange keysFoldsSpec)) keysFoldsCard

/-- THE TIED CARD OF 'toolchestlaw05.KeysBegin'. -/
def keysBeginCard : Claim7 := { stood := { row := keysBeginRow, standIns := [], harness := (true, "330d2bdaf5dfde928d3e82b45eb546d70765f22ae7114fdc0e89a7c5bb1ab882"), looks := false }, kinds := [], alts := [], laidByText := true, laidKinds := [.data, .pinned], laidTests := true, laidLooks := .later }
def KeysBeginCardSaid : Prop := Claim7.holds Tryd.pinned (.plain (OpenSpec.ofChange keysBeginSpec)) keysBeginCard

/-- THE SECOND FORM's CARD OF 'toolchestlaw05.KeysParted'. -/
def keysPartedUptoCard : Claim7 := { stood := { row := keysPartedUptoRow, standIns := [], harness := (true, "330d2bdaf5dfde928d3e82b45eb546d70765f22ae7114fdc0e89a7c5bb1ab882"), looks := false }, kinds := [], alts := [], laidByText := true, laidKinds := [.data, .pinned], laidTests := true, laidLooks := .later }
def KeysPartedUptoCardSaid : Prop := Claim7.holds Tryd.pinned (.plain (OpenSpec.upto keysPartedSpec)) keysPartedUptoCard

/-- THE SECOND FORM's CARD OF 'toolchestlaw05.KeysFolds'. -/
def keysFoldsUptoCard : Claim7 := { stood := { row := keysFoldsUptoRow, standIns := [], harness := (true, "330d2bdaf5dfde928d3e82b45eb546d70765f22ae7114fdc0e89a7c5bb1ab882"), looks := false }, kinds := [], alts := [], laidByText := true, laidKinds := [.data, .pinned], laidTests := true, laidLooks := .later }
def KeysFoldsUptoCardSaid : Prop := Claim7.holds Tryd.pinned (.plain (OpenSpec.upto keysFoldsSpec)) keysFoldsUptoCard

/-- THE SECOND FORM's CARD OF 'toolchestlaw05.KeysBegin'. -/
def keysBeginUptoCard : Claim7 := { stood := { row := keysBeginUptoRow, standIns := [], harness := (true, "330d2bdaf5dfde928d3e82b45eb546d70765f22ae7114fdc0e89a7c5bb1ab882"), looks := false }, kinds := [], alts := [], laidByText := true, laidKinds := [.data, .pinned], laidTests := true, laidLooks := .later }
def KeysBeginUptoCardSaid : Prop := Claim7.holds Tryd.pinned (.plain (OpenSpec.upto keysBeginSpec)) keysBeginUptoCard
end Rows
end Go.Proofs.YtfffhdbicldihabDoor
