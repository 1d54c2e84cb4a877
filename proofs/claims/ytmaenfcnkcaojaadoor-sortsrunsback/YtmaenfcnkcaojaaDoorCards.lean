/-
  DERIVED. GIVEN WITH THE SEED: THE CARDS: each row of YtmaenfcnkcaojaaDoorRows.lean that lists a variable, with what it lists TIED to the program's text (the seventh form; the later family's looks); each row that meets fmt, with fmt's text TOLD by the authors' own Lean function (tested against real Go, not proved from fmt's source: count such statements apart). THE CARD IS WHAT COUNTS. Prove the row's statement (the work); the ties are given (YtmaenfcnkcaojaaDoorTie.lean); close each card by the builder's one call (the guide's Derived/Test/ToyasCard.lean, 'card_holds'). Laid BY PROGRAM, IN A SANDBOX (cutbox-door.mjs). By AI agents, Wed Nov 11 2026. No macro, syntax, notation, axiom, sorry.
-/
import Derived.Test.YtmaenfcnkcaojaaDoorRows
import GoSem.ClaimSeven
namespace Go.Proofs.YtmaenfcnkcaojaaDoor
namespace Rows

/-- THE TIED CARD OF 'toolchestlaw06.SortsRuns'. -/
def sortsRunsCard : Claim7 := { stood := { row := sortsRunsRow, standIns := [], harness := (true, "3a6189ac582dbdf3ec9095db37f6b89973b901b22c6dbc518a7b534ea271e967"), looks := true }, kinds := [], alts := [], laidByText := true, laidKinds := [.data, .pinned], laidTests := true, laidLooks := .later }
def SortsRunsCardSaid : Prop := Claim7.holds Tryd.pinned (.plain (OpenSpec.ofChange sortsRunsSpec)) sortsRunsCard

/-- THE TIED CARD OF 'toolchestlaw06.SortsRunsBack'. -/
def sortsRunsBackCard : Claim7 := { stood := { row := sortsRunsBackRow, standIns := [], harness := (true, "3a6189ac582dbdf3ec9095db37f6b89973b901b22c6dbc518a7b534ea271e967"), looks := true }, kinds := [], alts := [], laidByText := true, laidKinds := [.data, .pinned], laidTests := true, laidLooks := .later }
def SortsRunsBackCardSaid : Prop := Claim7.holds Tryd.pinned (.plain (OpenSpec.ofChange sortsRunsBackSpec)) sortsRunsBackCard

/-- THE SECOND FORM's CARD OF 'toolchestlaw06.SortsRuns'. -/
def sortsRunsUptoCard : Claim7 := { stood := { row := sortsRunsUptoRow, standIns := [], harness := (true, "3a6189ac582dbdf3ec9095db37f6b89973b901b22c6dbc518a7b534ea271e967"), looks := true }, kinds := [], alts := [], laidByText := true, laidKinds := [.data, .pinned], laidTests := true, laidLooks := .later }
def SortsRunsUptoCardSaid : Prop := Claim7.holds Tryd.pinned (.plain (OpenSpec.upto sortsRunsSpec)) sortsRunsUptoCard

/-- THE SECOND FORM's CARD OF 'toolchestlaw06.SortsRunsBack'. -/
def sortsRunsBackUptoCard : Claim7 := { stood := { row := sortsRunsBackUptoRow, standIns := [], harness := (true, "3a6189ac582dbdf3ec9095db37f6b89973b901b22c6dbc518a7b534ea271e967"), looks := true }, kinds := [], alts := [], laidByText := true, laidKinds := [.data, .pinned], laidTests := true, laidLooks := .later }
def SortsRunsBackUptoCardSaid : Prop := Claim7.holds Tryd.pinned (.plain (OpenSpec.upto sortsRunsBackSpec)) sortsRunsBackUptoCard
end Rows
end Go.Proofs.YtmaenfcnkcaojaaDoor
