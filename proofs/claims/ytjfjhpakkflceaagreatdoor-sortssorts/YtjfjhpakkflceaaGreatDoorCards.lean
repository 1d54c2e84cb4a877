/-
  DERIVED. GIVEN WITH THE SEED: THE CARDS: each row of YtjfjhpakkflceaaGreatDoorRows.lean that lists a variable, with what it lists TIED to the program's text (the seventh form; the later family's looks); each row that meets fmt, with fmt's text TOLD by the authors' own Lean function (tested against real Go, not proved from fmt's source: count such statements apart). THE CARD IS WHAT COUNTS. Prove the row's statement (the work); the ties are given (YtjfjhpakkflceaaGreatDoorTie.lean); close each card by the builder's one call (the guide's Derived/Test/ToyasCard.lean, 'card_holds'). Laid BY PROGRAM, IN A SANDBOX (cutbox-door.mjs). By AI agents, Wed Nov 11 2026. No macro, syntax, notation, axiom, sorry.
-/
import Derived.Test.YtjfjhpakkflceaaGreatDoorRows
import GoSem.ClaimSeven
namespace Go.Proofs.YtjfjhpakkflceaaGreatDoor
namespace Rows

/-- THE TIED CARD OF 'toolchestlaw06.SortsSorts'. -/
def sortsSortsCard : Claim7 := { stood := { row := sortsSortsRow, standIns := [], harness := (true, "f369fdbf6218d9700bae7d9c03eb4225c67f0a1f24118b99265e24ba33024b97"), looks := true }, kinds := [], alts := [], laidByText := true, laidKinds := [.data, .data, .data, .data, .pinned], laidTests := true, laidLooks := .later }
def SortsSortsCardSaid : Prop := Claim7.holds Tryz.pinned (.plain (OpenSpec.ofChange sortsSortsSpec)) sortsSortsCard

/-- THE TIED CARD OF 'toolchestlaw06.SortsMerges'. -/
def sortsMergesCard : Claim7 := { stood := { row := sortsMergesRow, standIns := [], harness := (true, "f369fdbf6218d9700bae7d9c03eb4225c67f0a1f24118b99265e24ba33024b97"), looks := true }, kinds := [], alts := [], laidByText := true, laidKinds := [.data, .data, .data, .data, .pinned], laidTests := true, laidLooks := .later }
def SortsMergesCardSaid : Prop := Claim7.holds Tryz.pinned (.plain (OpenSpec.ofChange sortsMergesSpec)) sortsMergesCard

/-- THE TIED CARD OF 'toolchestlaw06.SortsSame'. -/
def sortsSameCard : Claim7 := { stood := { row := sortsSameRow, standIns := [], harness := (true, "f369fdbf6218d9700bae7d9c03eb4225c67f0a1f24118b99265e24ba33024b97"), looks := true }, kinds := [], alts := [], laidByText := true, laidKinds := [.data, .pinned], laidTests := true, laidLooks := .later }
def SortsSameCardSaid : Prop := Claim7.holds Tryz.pinned (.plain (OpenSpec.ofChange sortsSameSpec)) sortsSameCard

/-- THE SECOND FORM's CARD OF 'toolchestlaw06.SortsSorts'. -/
def sortsSortsUptoCard : Claim7 := { stood := { row := sortsSortsUptoRow, standIns := [], harness := (true, "f369fdbf6218d9700bae7d9c03eb4225c67f0a1f24118b99265e24ba33024b97"), looks := true }, kinds := [], alts := [], laidByText := true, laidKinds := [.data, .data, .data, .data, .pinned], laidTests := true, laidLooks := .later }
def SortsSortsUptoCardSaid : Prop := Claim7.holds Tryz.pinned (.plain (OpenSpec.upto sortsSortsSpec)) sortsSortsUptoCard

/-- THE SECOND FORM's CARD OF 'toolchestlaw06.SortsMerges'. -/
def sortsMergesUptoCard : Claim7 := { stood := { row := sortsMergesUptoRow, standIns := [], harness := (true, "f369fdbf6218d9700bae7d9c03eb4225c67f0a1f24118b99265e24ba33024b97"), looks := true }, kinds := [], alts := [], laidByText := true, laidKinds := [.data, .data, .data, .data, .pinned], laidTests := true, laidLooks := .later }
def SortsMergesUptoCardSaid : Prop := Claim7.holds Tryz.pinned (.plain (OpenSpec.upto sortsMergesSpec)) sortsMergesUptoCard

/-- THE SECOND FORM's CARD OF 'toolchestlaw06.SortsSame'. -/
def sortsSameUptoCard : Claim7 := { stood := { row := sortsSameUptoRow, standIns := [], harness := (true, "f369fdbf6218d9700bae7d9c03eb4225c67f0a1f24118b99265e24ba33024b97"), looks := true }, kinds := [], alts := [], laidByText := true, laidKinds := [.data, .pinned], laidTests := true, laidLooks := .later }
def SortsSameUptoCardSaid : Prop := Claim7.holds Tryz.pinned (.plain (OpenSpec.upto sortsSameSpec)) sortsSameUptoCard
end Rows
end Go.Proofs.YtjfjhpakkflceaaGreatDoor
