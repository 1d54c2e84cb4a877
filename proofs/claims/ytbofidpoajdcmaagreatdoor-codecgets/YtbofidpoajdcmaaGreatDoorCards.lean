/-
  DERIVED. GIVEN WITH THE SEED: THE CARDS: each row of YtbofidpoajdcmaaGreatDoorRows.lean that lists a variable, with what it lists TIED to the program's text (the seventh form; the later family's looks); each row that meets fmt, with fmt's text TOLD by the authors' own Lean function (tested against real Go, not proved from fmt's source: count such statements apart). THE CARD IS WHAT COUNTS. Prove the row's statement (the work); the ties are given (YtbofidpoajdcmaaGreatDoorTie.lean); close each card by the builder's one call (the guide's Derived/Test/ToyasCard.lean, 'card_holds'). Laid BY PROGRAM, IN A SANDBOX (cutbox-door.mjs). By AI agents, Wed Nov 11 2026. No macro, syntax, notation, axiom, sorry.
-/
import Derived.Test.YtbofidpoajdcmaaGreatDoorRows
import GoSem.ClaimSeven
namespace Go.Proofs.YtbofidpoajdcmaaGreatDoor
namespace Rows

/-- THE TIED CARD OF 'toolchestlaw16.CodecPuts'. -/
def codecPutsCard : Claim7 := { stood := { row := codecPutsRow, standIns := [], harness := (true, "50634cec4b46da32bb2b8f9977cf06e504da51c91da8455525d77ae5e3837ad7"), looks := false }, kinds := [], alts := [], laidByText := true, laidKinds := [.data, .data, .data], laidTests := true, laidLooks := .later }
def CodecPutsCardSaid : Prop := Claim7.holds Tryz.pinned (.plain (OpenSpec.ofChange codecPutsSpec)) codecPutsCard

/-- THE TIED CARD OF 'toolchestlaw16.CodecGets'. -/
def codecGetsCard : Claim7 := { stood := { row := codecGetsRow, standIns := [], harness := (true, "50634cec4b46da32bb2b8f9977cf06e504da51c91da8455525d77ae5e3837ad7"), looks := false }, kinds := [], alts := [], laidByText := true, laidKinds := [.data, .data, .data], laidTests := true, laidLooks := .later }
def CodecGetsCardSaid : Prop := Claim7.holds Tryz.pinned (.plain (OpenSpec.ofChange codecGetsSpec)) codecGetsCard

/-- THE TIED CARD OF 'toolchestlaw16.CodecTrees'. -/
def codecTreesCard : Claim7 := { stood := { row := codecTreesRow, standIns := [], harness := (true, "50634cec4b46da32bb2b8f9977cf06e504da51c91da8455525d77ae5e3837ad7"), looks := false }, kinds := [], alts := [], laidByText := true, laidKinds := [.data, .data, .data], laidTests := true, laidLooks := .later }
def CodecTreesCardSaid : Prop := Claim7.holds Tryz.pinned (.plain (OpenSpec.ofChange codecTreesSpec)) codecTreesCard

/-- THE SECOND FORM's CARD OF 'toolchestlaw16.CodecPuts'. -/
def codecPutsUptoCard : Claim7 := { stood := { row := codecPutsUptoRow, standIns := [], harness := (true, "50634cec4b46da32bb2b8f9977cf06e504da51c91da8455525d77ae5e3837ad7"), looks := false }, kinds := [], alts := [], laidByText := true, laidKinds := [.data, .data, .data], laidTests := true, laidLooks := .later }
def CodecPutsUptoCardSaid : Prop := Claim7.holds Tryz.pinned (.plain (OpenSpec.upto codecPutsSpec)) codecPutsUptoCard

/-- THE SECOND FORM's CARD OF 'toolchestlaw16.CodecGets'. -/
def codecGetsUptoCard : Claim7 := { stood := { row := codecGetsUptoRow, standIns := [], harness := (true, "50634cec4b46da32bb2b8f9977cf06e504da51c91da8455525d77ae5e3837ad7"), looks := false }, kinds := [], alts := [], laidByText := true, laidKinds := [.data, .data, .data], laidTests := true, laidLooks := .later }
def CodecGetsUptoCardSaid : Prop := Claim7.holds Tryz.pinned (.plain (OpenSpec.upto codecGetsSpec)) codecGetsUptoCard

/-- THE SECOND FORM's CARD OF 'toolchestlaw16.CodecTrees'. -/
def codecTreesUptoCard : Claim7 := { stood := { row := codecTreesUptoRow, standIns := [], harness := (true, "50634cec4b46da32bb2b8f9977cf06e504da51c91da8455525d77ae5e3837ad7"), looks := false }, kinds := [], alts := [], laidByText := true, laidKinds := [.data, .data, .data], laidTests := true, laidLooks := .later }
def CodecTreesUptoCardSaid : Prop := Claim7.holds Tryz.pinned (.plain (OpenSpec.upto codecTreesSpec)) codecTreesUptoCard
end Rows
end Go.Proofs.YtbofidpoajdcmaaGreatDoor
