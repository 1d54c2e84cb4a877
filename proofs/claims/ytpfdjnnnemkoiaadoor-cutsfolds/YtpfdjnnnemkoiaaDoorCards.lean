/-
  DERIVED. GIVEN WITH THE SEED: THE CARDS: each row of YtpfdjnnnemkoiaaDoorRows.lean that lists a variable, with what it lists TIED to the program's text (the seventh form; the later family's looks); each row that meets fmt, with fmt's text TOLD by the authors' own Lean function (tested against real Go, not proved from fmt's source: count such statements apart). THE CARD IS WHAT COUNTS. Prove the row's statement (the work); the ties are given (YtpfdjnnnemkoiaaDoorTie.lean); close each card by the builder's one call (the guide's Derived/Test/ToyasCard.lean, 'card_holds'). Laid BY PROGRAM, IN A SANDBOX (cutbox-door.mjs). By AI agents, Wed Nov 11 2026. No macro, syntax, notation, axiom, sorry.
-/
import Derived.Test.YtpfdjnnnemkoiaaDoorRows
import GoSem.ClaimSeven
namespace Go.Proofs.YtpfdjnnnemkoiaaDoor
namespace Rows

/-- THE TIED CARD OF 'toolchestlaw07.CutsFolds'. -/
def cutsFoldsCard : Claim7 := { stood := { row := cutsFoldsRow, standIns := [], harness := (true, "1f374844ed747e1121ec7f23267b34ca7710959d5a618a94f88449fbb7d4eb63"), looks := false }, kinds := [], alts := [], laidByText := true, laidKinds := [.data, .data, .data], laidTests := true, laidLooks := .later }
def CutsFoldsCardSaid : Prop := Claim7.holds Tryd.pinned (.plain (OpenSpec.ofChange cutsFoldsSpec)) cutsFoldsCard

/-- THE TIED CARD OF 'toolchestlaw07.CutsAll'. -/
def cutsAllCard : Claim7 := { stood := { row := cutsAllRow, standIns := [], harness := (true, "1f374844ed747e1121ec7f23267b34ca7710959d5a618a94f88449fbb7d4eb63"), looks := false }, kinds := [], alts := [], laidByText := true, laidKinds := [.data, .data, .data], laidTests := true, laidLooks := .later }
def CutsAllCardSaid : Prop := Claim7.holds Tryd.pinned (.plain (OpenSpec.ofChange cutsAllSpec)) cutsAllCard

/-- THE SECOND FORM's CARD OF 'toolchestlaw07.CutsFolds'. -/
def cutsFoldsUptoCard : Claim7 := { stood := { row := cutsFoldsUptoRow, standIns := [], harness := (true, "1f374844ed747e1121ec7f23267b34ca7710959d5a618a94f88449fbb7d4eb63"), looks := false }, kinds := [], alts := [], laidByText := true, laidKinds := [.data, .data, .data], laidTests := true, laidLooks := .later }
def CutsFoldsUptoCardSaid : Prop := Claim7.holds Tryd.pinned (.plain (OpenSpec.upto cutsFoldsSpec)) cutsFoldsUptoCard

/-- THE SECOND FORM's CARD OF 'toolchestlaw07.CutsAll'. -/
def cutsAllUptoCard : Claim7 := { stood := { row := cutsAllUptoRow, standIns := [], harness := (true, "1f374844ed747e1121ec7f23267b34ca7710959d5a618a94f88449fbb7d4eb63"), looks := false }, kinds := [], alts := [], laidByText := true, laidKinds := [.data, .data, .data], laidTests := true, laidLooks := .later }
def CutsAllUptoCardSaid : Prop := Claim7.holds Tryd.pinned (.plain (OpenSpec.upto cutsAllSpec)) cutsAllUptoCard
end Rows
end Go.Proofs.YtpfdjnnnemkoiaaDoor
