/-
  DERIVED. GIVEN WITH THE SEED: THE CARDS: each row of YtfffhdbicldihaaDoorRows.lean that lists a variable, with what it lists TIED to the program's text (the seventh form; the later family's looks); each row that meets fmt, with fmt's text TOLD by the authors' own Lean function (tested against real Go, not proved from fmt's source: count such statements apart). THE CARD IS WHAT COUNTS. Prove the row's statement (the work); the ties are given (YtfffhdbicldihaaDoorTie.lean); close each card by the builder's one call (the guide's Derived/Test/ToyasCard.lean, 'card_holds'). Laid BY PROGRAM, IN A SANDBOX (cutbox-door.mjs). By AI agents, Wed Nov 11 2026. No macro, syntax, notation, axiom, sorry.
-/
import Derived.Test.YtfffhdbicldihaaDoorRows
import GoSem.ClaimSeven
namespace Go.Proofs.YtfffhdbicldihaaDoor
namespace Rows

/-- THE TIED CARD OF 'toolchestlaw05.KeysCompares'. -/
def keysComparesCard : Claim7 := { stood := { row := keysComparesRow, standIns := [], harness := (true, "85bfb164cdd2ab6fd02552228dbeea5acfacbb8addd7c7761715f378265d0303"), looks := false }, kinds := [], alts := [], laidByText := true, laidKinds := [.data, .pinned], laidTests := true, laidLooks := .later }
def KeysComparesCardSaid : Prop := Claim7.holds Tryd.pinned (.plain (OpenSpec.ofChange keysComparesSpec)) keysComparesCard

/-- THE TIED CARD OF 'toolchestlaw05.KeysNumbers'. -/
def keysNumbersCard : Claim7 := { stood := { row := keysNumbersRow, standIns := [], harness := (true, "85bfb164cdd2ab6fd02552228dbeea5acfacbb8addd7c7761715f378265d0303"), looks := false }, kinds := [], alts := [], laidByText := true, laidKinds := [.data, .pinned], laidTests := true, laidLooks := .later }
def KeysNumbersCardSaid : Prop := Claim7.holds Tryd.pinned (.plain (OpenSpec.ofChange keysNumbersSpec)) keysNumbersCard

/-- THE TIED CARD OF 'toolchestlaw05.KeysTurns'. -/
def keysTurnsCard : Claim7 := { stood := { row := keysTurnsRow, standIns := [], harness := (true, "85bfb164cdd2ab6fd02552228dbeea5acfacbb8addd7c7761715f378265d0303"), looks := false }, kinds := [], alts := [], laidByText := true, laidKinds := [.data, .pinned], laidTests := true, laidLooks := .later }
def KeysTurnsCardSaid : Prop := Claim7.holds Tryd.pinned (.plain (OpenSpec.ofChange keysTurnsSpec)) keysTurnsCard

/-- THE TIED CARD OF 'toolchestlaw05.KeysOrder'. -/
def keysOrderCard : Claim7 := { stood := { row := keysOrderRow, standIns := [], harness := (true, "85bfb164cdd2ab6fd02552228dbeea5acfacbb8addd7c7761715f378265d0303"), looks := false }, kinds := [], alts := [], laidByText := true, laidKinds := [.data, .pinned], laidTests := true, laidLooks := .later }
def KeysOrderCardSaid : Prop := Claim7.holds Tryd.pinned (.plain (OpenSpec.ofChange keysOrderSpec)) keysOrderCard

/-- THE TIED CARD OF 'toolchestlaw05.KeysWhole'. -/
def keysWholeCard : Claim7 := { stood := { row := keysWholeRow, standIns := [], harness := (true, "85bfb164cdd2ab6fd02552228dbeea5acfacbb8addd7c7761715f378265d0303"), looks := false }, kinds := [], alts := [], laidByText := true, laidKinds := [.data, .pinned], laidTests := true, laidLooks := .later }
def KeysWholeCardSaid : Prop := Claim7.holds Tryd.pinned (.plain (OpenSpec.ofChange keysWholeSpec)) keysWholeCard

/-- THE SECOND FORM's CARD OF 'toolchestlaw05.KeysCompares'. -/
def keysComparesUptoCard : Claim7 := { stood := { row := keysComparesUptoRow, standIns := [], harness := (true, "85bfb164cdd2ab6fd02552228dbeea5acfacbb8addd7c7761715f378265d0303"), looks := false }, kinds := [], alts := [], laidByText := true, laidKinds := [.data, .pinned], laidTests := true, laidLooks := .later }
def KeysComparesUptoCardSaid : Prop := Claim7.holds Tryd.pinned (.plain (OpenSpec.upto keysComparesSpec)) keysComparesUptoCard

/-- THE SECOND FORM's CARD OF 'toolchestlaw05.KeysNumbers'. -/
def keysNumbersUptoCard : Claim7 := { stood := { row := keysNumbersUptoRow, standIns := [], harness := (true, "85bfb164cdd2ab6fd02552228dbeea5acfacbb8addd7c7761715f378265d0303"), looks := false }, kinds := [], alts := [], laidByText := true, laidKinds := [.data, .pinned], laidTests := true, laidLooks := .later }
def KeysNumbersUptoCardSaid : Prop := Claim7.holds Tryd.pinned (.plain (OpenSpec.upto keysNumbersSpec)) keysNumbersUptoCard

/-- THE SECOND FORM's CARD OF 'toolchestlaw05.KeysTurns'. -/
def keysTurnsUptoCard : Claim7 := { stood := { row := keysTurnsUptoRow, standIns := [], harness := (true, "85bfb164cdd2ab6fd02552228dbeea5acfacbb8addd7c7761715f378265d0303"), looks := false }, kinds := [], alts := [], laidByText := true, laidKinds := [.data, .pinned], laidTests := true, laidLooks := .later }
def KeysTurnsUptoCardSaid : Prop := Claim7.holds Tryd.pinned (.plain (OpenSpec.upto keysTurnsSpec)) keysTurnsUptoCard

/-- THE SECOND FORM's CARD OF 'toolchestlaw05.KeysOrder'. -/
def keysOrderUptoCard : Claim7 := { stood := { row := keysOrderUptoRow, standIns := [], harness := (true, "85bfb164cdd2ab6fd02552228dbeea5acfacbb8addd7c7761715f378265d0303"), looks := false }, kinds := [], alts := [], laidByText := true, laidKinds := [.data, .pinned], laidTests := true, laidLooks := .later }
def KeysOrderUptoCardSaid : Prop := Claim7.holds Tryd.pinned (.plain (OpenSpec.upto keysOrderSpec)) keysOrderUptoCard

/-- THE SECOND FORM's CARD OF 'toolchestlaw05.KeysWhole'. -/
def keysWholeUptoCard : Claim7 := { stood := { row := keysWholeUptoRow, standIns := [], harness := (true, "85bfb164cdd2ab6fd02552228dbeea5acfacbb8addd7c7761715f378265d0303"), looks := false }, kinds := [], alts := [], laidByText := true, laidKinds := [.data, .pinned], laidTests := true, laidLooks := .later }
def KeysWholeUptoCardSaid : Prop := Claim7.holds Tryd.pinned (.plain (OpenSpec.upto keysWholeSpec)) keysWholeUptoCard
end Rows
end Go.Proofs.YtfffhdbicldihaaDoor
