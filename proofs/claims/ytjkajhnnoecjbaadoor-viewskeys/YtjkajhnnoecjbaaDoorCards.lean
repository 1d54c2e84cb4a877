/-
  DERIVED. GIVEN WITH THE SEED: THE CARDS: each row of YtjkajhnnoecjbaaDoorRows.lean that lists a variable, with what it lists TIED to the program's text (the seventh form; the later family's looks); each row that meets fmt, with fmt's text TOLD by the authors' own Lean function (tested against real Go, not proved from fmt's source: count such statements apart). THE CARD IS WHAT COUNTS. Prove the row's statement (the work); the ties are given (YtjkajhnnoecjbaaDoorTie.lean); close each card by the builder's one call (the guide's Derived/Test/ToyasCard.lean, 'card_holds'). Laid BY PROGRAM, IN A SANDBOX (cutbox-door.mjs). By AI agents, Wed Nov 11 2026. No macro, syntax, notation, axiom, sorry.
-/
import Derived.Test.YtjkajhnnoecjbaaDoorRows
import GoSem.ClaimSeven
namespace Go.Proofs.YtjkajhnnoecjbaaDoor
namespace Rows

/-- THE TIED CARD OF 'toolchestlaw08.ViewsPastes'. -/
def viewsPastesCard : Claim7 := { stood := { row := viewsPastesRow, standIns := [], harness := (true, "8683230a3a08a7ca9829247230c4a520d2ffe3a72ca5a4247cb316f91eff61ba"), looks := false }, kinds := [], alts := [], laidByText := true, laidKinds := [.data, .data, .data], laidTests := true, laidLooks := .later }
def ViewsPastesCardSaid : Prop := Claim7.holds Tryd.pinned (.plain (OpenSpec.ofChange viewsPastesSpec)) viewsPastesCard

/-- THE TIED CARD OF 'toolchestlaw08.ViewsTurns'. -/
def viewsTurnsCard : Claim7 := { stood := { row := viewsTurnsRow, standIns := [], harness := (true, "8683230a3a08a7ca9829247230c4a520d2ffe3a72ca5a4247cb316f91eff61ba"), looks := false }, kinds := [], alts := [], laidByText := true, laidKinds := [.data, .data, .data], laidTests := true, laidLooks := .later }
def ViewsTurnsCardSaid : Prop := Claim7.holds Tryd.pinned (.plain (OpenSpec.ofChange viewsTurnsSpec)) viewsTurnsCard

/-- THE TIED CARD OF 'toolchestlaw08.ViewsKeys'. -/
def viewsKeysCard : Claim7 := { stood := { row := viewsKeysRow, standIns := [], harness := (true, "8683230a3a08a7ca9829247230c4a520d2ffe3a72ca5a4247cb316f91eff61ba"), looks := false }, kinds := [], alts := [], laidByText := true, laidKinds := [.data, .data, .data], laidTests := true, laidLooks := .later }
def ViewsKeysCardSaid : Prop := Claim7.holds Tryd.pinned (.plain (OpenSpec.ofChange viewsKeysSpec)) viewsKeysCard

/-- THE TIED CARD OF 'toolchestlaw08.ViewsDumped'. -/
def viewsDumpedCard : Claim7 := { stood := { row := viewsDumpedRow, standIns := [], harness := (true, "8683230a3a08a7ca9829247230c4a520d2ffe3a72ca5a4247cb316f91eff61ba"), looks := false }, kinds := [], alts := [], laidByText := true, laidKinds := [.data, .data, .data], laidTests := true, laidLooks := .later }
def ViewsDumpedCardSaid : Prop := Claim7.holds Tryd.pinned (.plain (OpenSpec.ofChange viewsDumpedSpec)) viewsDumpedCard

/-- THE SECOND FORM's CARD OF 'toolchestlaw08.ViewsPastes'. -/
def viewsPastesUptoCard : Claim7 := { stood := { row := viewsPastesUptoRow, standIns := [], harness := (true, "8683230a3a08a7ca9829247230c4a520d2ffe3a72ca5a4247cb316f91eff61ba"), looks := false }, kinds := [], alts := [], laidByText := true, laidKinds := [.data, .data, .data], laidTests := true, laidLooks := .later }
def ViewsPastesUptoCardSaid : Prop := Claim7.holds Tryd.pinned (.plain (OpenSpec.upto viewsPastesSpec)) viewsPastesUptoCard

/-- THE SECOND FORM's CARD OF 'toolchestlaw08.ViewsTurns'. -/
def viewsTurnsUptoCard : Claim7 := { stood := { row := viewsTurnsUptoRow, standIns := [], harness := (true, "8683230a3a08a7ca9829247230c4a520d2ffe3a72ca5a4247cb316f91eff61ba"), looks := false }, kinds := [], alts := [], laidByText := true, laidKinds := [.data, .data, .data], laidTests := true, laidLooks := .later }
def ViewsTurnsUptoCardSaid : Prop := Claim7.holds Tryd.pinned (.plain (OpenSpec.upto viewsTurnsSpec)) viewsTurnsUptoCard

/-- THE SECOND FORM's CARD OF 'toolchestlaw08.ViewsKeys'. -/
def viewsKeysUptoCard : Claim7 := { stood := { row := viewsKeysUptoRow, standIns := [], harness := (true, "8683230a3a08a7ca9829247230c4a520d2ffe3a72ca5a4247cb316f91eff61ba"), looks := false }, kinds := [], alts := [], laidByText := true, laidKinds := [.data, .data, .data], laidTests := true, laidLooks := .later }
def ViewsKeysUptoCardSaid : Prop := Claim7.holds Tryd.pinned (.plain (OpenSpec.upto viewsKeysSpec)) viewsKeysUptoCard

/-- THE SECOND FORM's CARD OF 'toolchestlaw08.ViewsDumped'. -/
def viewsDumpedUptoCard : Claim7 := { stood := { row := viewsDumpedUptoRow, standIns := [], harness := (true, "8683230a3a08a7ca9829247230c4a520d2ffe3a72ca5a4247cb316f91eff61ba"), looks := false }, kinds := [], alts := [], laidByText := true, laidKinds := [.data, .data, .data], laidTests := true, laidLooks := .later }
def ViewsDumpedUptoCardSaid : Prop := Claim7.holds Tryd.pinned (.plain (OpenSpec.upto viewsDumpedSpec)) viewsDumpedUptoCard
end Rows
end Go.Proofs.YtjkajhnnoecjbaaDoor
