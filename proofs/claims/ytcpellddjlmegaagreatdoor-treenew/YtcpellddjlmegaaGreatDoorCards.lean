/-
  DERIVED. GIVEN WITH THE SEED: THE CARDS: each row of YtcpellddjlmegaaGreatDoorRows.lean that lists a variable, with what it lists TIED to the program's text (the seventh form; the later family's looks); each row that meets fmt, with fmt's text TOLD by the authors' own Lean function (tested against real Go, not proved from fmt's source: count such statements apart). THE CARD IS WHAT COUNTS. Prove the row's statement (the work); the ties are given (YtcpellddjlmegaaGreatDoorTie.lean); close each card by the builder's one call (the guide's Derived/Test/ToyasCard.lean, 'card_holds'). Laid BY PROGRAM, IN A SANDBOX (cutbox-door.mjs). By AI agents, Wed Nov 11 2026. No macro, syntax, notation, axiom, sorry.
-/
import Derived.Test.YtcpellddjlmegaaGreatDoorRows
import GoSem.ClaimSeven
namespace Go.Proofs.YtcpellddjlmegaaGreatDoor
namespace Rows

/-- THE TIED CARD OF 'toolchestlaw12.TreeNew'. -/
def treeNewCard : Claim7 := { stood := { row := treeNewRow, standIns := [], harness := (true, "c62f769f8c51158347f7d35c0fee5dbb53c8112ef8cf171e2bc549991de674c4"), looks := false }, kinds := [], alts := [], laidByText := true, laidKinds := [.data, .data, .data], laidTests := true, laidLooks := .later }
def TreeNewCardSaid : Prop := Claim7.holds Tryz.pinned (.plain (OpenSpec.ofChange treeNewSpec)) treeNewCard

/-- THE SECOND FORM's CARD OF 'toolchestlaw12.TreeNew'. -/
def treeNewUptoCard : Claim7 := { stood := { row := treeNewUptoRow, standIns := [], harness := (true, "c62f769f8c51158347f7d35c0fee5dbb53c8112ef8cf171e2bc549991de674c4"), looks := false }, kinds := [], alts := [], laidByText := true, laidKinds := [.data, .data, .data], laidTests := true, laidLooks := .later }
def TreeNewUptoCardSaid : Prop := Claim7.holds Tryz.pinned (.plain (OpenSpec.upto treeNewSpec)) treeNewUptoCard
end Rows
end Go.Proofs.YtcpellddjlmegaaGreatDoor
