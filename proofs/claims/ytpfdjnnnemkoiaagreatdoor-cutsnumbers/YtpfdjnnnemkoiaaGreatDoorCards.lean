/-
  DERIVED. GIVEN WITH THE SEED: THE CARDS: each row of YtpfdjnnnemkoiaaGreatDoorRows.lean that lists a variable, with what it lists TIED to the program's text (the seventh form; the later family's looks); each row that meets fmt, with fmt's text TOLD by the authors' own Lean function (tested against real Go, not proved from fmt's source: count such statements apart). THE CARD IS WHAT COUNTS. Prove the row's statement (the work); the ties are given (YtpfdjnnnemkoiaaGreatDoorTie.lean); close each card by the builder's one call (the guide's Derived/Test/ToyasCard.lean, 'card_holds'). Laid BY PROGRAM, IN A SANDBOX (cutbox-door.mjs). By AI agents, Wed Nov 11 2026. No macro, syntax, notation, axiom, sorry.
-/
import Derived.Test.YtpfdjnnnemkoiaaGreatDoorRows
import GoSem.ClaimSeven
namespace Go.Proofs.YtpfdjnnnemkoiaaGreatDoor
namespace Rows

/-- THE TIED CARD OF 'toolchestlaw07.CutsNumbers'. -/
def cutsNumbersCard : Claim7 := { stood := { row := cutsNumbersRow, standIns := [], harness := (true, "828c34d80b683d90f5dd15de38fbe56a9a9b4ca03fe4679220e07561c6025147"), looks := false }, kinds := [], alts := [], laidByText := true, laidKinds := [.data, .data, .data], laidTests := true, laidLooks := .later }
def CutsNumbersCardSaid : Prop := Claim7.holds Tryz.pinned (.plain (OpenSpec.ofChange cutsNumbersSpec)) cutsNumbersCard

/-- THE SECOND FORM's CARD OF 'toolchestlaw07.CutsNumbers'. -/
def cutsNumbersUptoCard : Claim7 := { stood := { row := cutsNumbersUptoRow, standIns := [], harness := (true, "828c34d80b683d90f5dd15de38fbe56a9a9b4ca03fe4679220e07561c6025147"), looks := false }, kinds := [], alts := [], laidByText := true, laidKinds := [.data, .data, .data], laidTests := true, laidLooks := .later }
def CutsNumbersUptoCardSaid : Prop := Claim7.holds Tryz.pinned (.plain (OpenSpec.upto cutsNumbersSpec)) cutsNumbersUptoCard
end Rows
end Go.Proofs.YtpfdjnnnemkoiaaGreatDoor
