/-
  DERIVED. GIVEN WITH THE SEED: THE CARDS: each row of YtjgboecifonjdaaDoorRows.lean that lists a variable, with what it lists TIED to the program's text (the seventh form; the later family's looks); each row that meets fmt, with fmt's text TOLD by the authors' own Lean function (tested against real Go, not proved from fmt's source: count such statements apart). THE CARD IS WHAT COUNTS. Prove the row's statement (the work); the ties are given (YtjgboecifonjdaaDoorTie.lean); close each card by the builder's one call (the guide's Derived/Test/ToyasCard.lean, 'card_holds'). Laid BY PROGRAM, IN A SANDBOX (cutbox-door.mjs). By AI agents, Wed Nov 11 2026. No macro, syntax, notation, axiom, sorry.
-/
import Derived.Test.YtjgboecifonjdaaDoorRows
import GoSem.ClaimSeven
namespace Go.Proofs.YtjgboecifonjdaaDoor
namespace Rows

/-- THE TIED CARD OF 'toolchestlaw04.SetsLeaves'. -/
def setsLeavesCard : Claim7 := { stood := { row := setsLeavesRow, standIns := [], harness := (true, "d780518af91ab7d2fb1866aac0dd23b5db6ea3ac2d7be76a525087d6ad4e9f1c"), looks := false }, kinds := [], alts := [], laidByText := true, laidKinds := [.data, .data, .data], laidTests := true, laidLooks := .later }
def SetsLeavesCardSaid : Prop := Claim7.holds Tryd.pinned (.plain (OpenSpec.ofChange setsLeavesSpec)) setsLeavesCard

/-- THE SECOND FORM's CARD OF 'toolchestlaw04.SetsLeaves'. -/
def setsLeavesUptoCard : Claim7 := { stood := { row := setsLeavesUptoRow, standIns := [], harness := (true, "d780518af91ab7d2fb1866aac0dd23b5db6ea3ac2d7be76a525087d6ad4e9f1c"), looks := false }, kinds := [], alts := [], laidByText := true, laidKinds := [.data, .data, .data], laidTests := true, laidLooks := .later }
def SetsLeavesUptoCardSaid : Prop := Claim7.holds Tryd.pinned (.plain (OpenSpec.upto setsLeavesSpec)) setsLeavesUptoCard
end Rows
end Go.Proofs.YtjgboecifonjdaaDoor
