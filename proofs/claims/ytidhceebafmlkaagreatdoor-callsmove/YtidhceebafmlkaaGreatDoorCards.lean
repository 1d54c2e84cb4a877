/-
  DERIVED. GIVEN WITH THE SEED: THE CARDS: each row of YtidhceebafmlkaaGreatDoorRows.lean that lists a variable, with what it lists TIED to the program's text (the seventh form; the later family's looks); each row that meets fmt, with fmt's text TOLD by the authors' own Lean function (tested against real Go, not proved from fmt's source: count such statements apart). THE CARD IS WHAT COUNTS. Prove the row's statement (the work); the ties are given (YtidhceebafmlkaaGreatDoorTie.lean); close each card by the builder's one call (the guide's Derived/Test/ToyasCard.lean, 'card_holds'). Laid BY PROGRAM, IN A SANDBOX (cutbox-door.mjs). By AI agents, Wed Nov 11 2026. No macro, syntax, notation, axiom, sorry.
-/
import Derived.Test.YtidhceebafmlkaaGreatDoorRows
import GoSem.ClaimSeven
namespace Go.Proofs.YtidhceebafmlkaaGreatDoor
namespace Rows

/-- THE TIED CARD OF 'toolchestlaw15.CallsDo'. -/
def callsDoCard : Claim7 := { stood := { row := callsDoRow, standIns := [], harness := (true, "c2aa8f0ee4991929cef982d5ec4a8924a8c9ee9e86f9fed556c02f12353f0704"), looks := false }, kinds := [], alts := [], laidByText := true, laidKinds := [.data, .data, .data, .data], laidTests := true, laidLooks := .later }
def CallsDoCardSaid : Prop := Claim7.holds Tryz.pinned (.plain (OpenSpec.ofChange callsDoSpec)) callsDoCard

/-- THE TIED CARD OF 'toolchestlaw15.CallsLook'. -/
def callsLookCard : Claim7 := { stood := { row := callsLookRow, standIns := [], harness := (true, "c2aa8f0ee4991929cef982d5ec4a8924a8c9ee9e86f9fed556c02f12353f0704"), looks := false }, kinds := [], alts := [], laidByText := true, laidKinds := [.data, .data, .data, .data], laidTests := true, laidLooks := .later }
def CallsLookCardSaid : Prop := Claim7.holds Tryz.pinned (.plain (OpenSpec.ofChange callsLookSpec)) callsLookCard

/-- THE TIED CARD OF 'toolchestlaw15.CallsWords'. -/
def callsWordsCard : Claim7 := { stood := { row := callsWordsRow, standIns := [], harness := (true, "c2aa8f0ee4991929cef982d5ec4a8924a8c9ee9e86f9fed556c02f12353f0704"), looks := false }, kinds := [], alts := [], laidByText := true, laidKinds := [.data, .data], laidTests := true, laidLooks := .later }
def CallsWordsCardSaid : Prop := Claim7.holds Tryz.pinned (.plain (OpenSpec.ofChange callsWordsSpec)) callsWordsCard

/-- THE TIED CARD OF 'toolchestlaw15.CallsKeep'. -/
def callsKeepCard : Claim7 := { stood := { row := callsKeepRow, standIns := [], harness := (true, "c2aa8f0ee4991929cef982d5ec4a8924a8c9ee9e86f9fed556c02f12353f0704"), looks := false }, kinds := [], alts := [], laidByText := true, laidKinds := [.data], laidTests := true, laidLooks := .later }
def CallsKeepCardSaid : Prop := Claim7.holds Tryz.pinned (.plain (OpenSpec.ofChange callsKeepSpec)) callsKeepCard

/-- THE TIED CARD OF 'toolchestlaw15.CallsGuard'. -/
def callsGuardCard : Claim7 := { stood := { row := callsGuardRow, standIns := [], harness := (true, "c2aa8f0ee4991929cef982d5ec4a8924a8c9ee9e86f9fed556c02f12353f0704"), looks := false }, kinds := [], alts := [], laidByText := true, laidKinds := [.data], laidTests := true, laidLooks := .later }
def CallsGuardCardSaid : Prop := Claim7.holds Tryz.pinned (.plain (OpenSpec.ofChange callsGuardSpec)) callsGuardCard

/-- THE TIED CARD OF 'toolchestlaw15.CallsMove'. -/
def callsMoveCard : Claim7 := { stood := { row := callsMoveRow, standIns := [], harness := (true, "c2aa8f0ee4991929cef982d5ec4a8924a8c9ee9e86f9fed556c02f12353f0704"), looks := false }, kinds := [], alts := [], laidByText := true, laidKinds := [.data], laidTests := true, laidLooks := .later }
def CallsMoveCardSaid : Prop := Claim7.holds Tryz.pinned (.plain (OpenSpec.ofChange callsMoveSpec)) callsMoveCard

/-- THE SECOND FORM's CARD OF 'toolchestlaw15.CallsDo'. -/
def callsDoUptoCard : Claim7 := { stood := { row := callsDoUptoRow, standIns := [], harness := (true, "c2aa8f0ee4991929cef982d5ec4a8924a8c9ee9e86f9fed556c02f12353f0704"), looks := false }, kinds := [], alts := [], laidByText := true, laidKinds := [.data, .data, .data, .data], laidTests := true, laidLooks := .later }
def CallsDoUptoCardSaid : Prop := Claim7.holds Tryz.pinned (.plain (OpenSpec.upto callsDoSpec)) callsDoUptoCard

/-- THE SECOND FORM's CARD OF 'toolchestlaw15.CallsLook'. -/
def callsLookUptoCard : Claim7 := { stood := { row := callsLookUptoRow, standIns := [], harness := (true, "c2aa8f0ee4991929cef982d5ec4a8924a8c9ee9e86f9fed556c02f12353f0704"), looks := false }, kinds := [], alts := [], laidByText := true, laidKinds := [.data, .data, .data, .data], laidTests := true, laidLooks := .later }
def CallsLookUptoCardSaid : Prop := Claim7.holds Tryz.pinned (.plain (OpenSpec.upto callsLookSpec)) callsLookUptoCard

/-- THE SECOND FORM's CARD OF 'toolchestlaw15.CallsWords'. -/
def callsWordsUptoCard : Claim7 := { stood := { row := callsWordsUptoRow, standIns := [], harness := (true, "c2aa8f0ee4991929cef982d5ec4a8924a8c9ee9e86f9fed556c02f12353f0704"), looks := false }, kinds := [], alts := [], laidByText := true, laidKinds := [.data, .data], laidTests := true, laidLooks := .later }
def CallsWordsUptoCardSaid : Prop := Claim7.holds Tryz.pinned (.plain (OpenSpec.upto callsWordsSpec)) callsWordsUptoCard

/-- THE SECOND FORM's CARD OF 'toolchestlaw15.CallsKeep'. -/
def callsKeepUptoCard : Claim7 := { stood := { row := callsKeepUptoRow, standIns := [], harness := (true, "c2aa8f0ee4991929cef982d5ec4a8924a8c9ee9e86f9fed556c02f12353f0704"), looks := false }, kinds := [], alts := [], laidByText := true, laidKinds := [.data], laidTests := true, laidLooks := .later }
def CallsKeepUptoCardSaid : Prop := Claim7.holds Tryz.pinned (.plain (OpenSpec.upto callsKeepSpec)) callsKeepUptoCard

/-- THE SECOND FORM's CARD OF 'toolchestlaw15.CallsGuard'. -/
def callsGuardUptoCard : Claim7 := { stood := { row := callsGuardUptoRow, standIns := [], harness := (true, "c2aa8f0ee4991929cef982d5ec4a8924a8c9ee9e86f9fed556c02f12353f0704"), looks := false }, kinds := [], alts := [], laidByText := true, laidKinds := [.data], laidTests := true, laidLooks := .later }
def CallsGuardUptoCardSaid : Prop := Claim7.holds Tryz.pinned (.plain (OpenSpec.upto callsGuardSpec)) callsGuardUptoCard

/-- THE SECOND FORM's CARD OF 'toolchestlaw15.CallsMove'. -/
def callsMoveUptoCard : Claim7 := { stood := { row := callsMoveUptoRow, standIns := [], harness := (true, "c2aa8f0ee4991929cef982d5ec4a8924a8c9ee9e86f9fed556c02f12353f0704"), looks := false }, kinds := [], alts := [], laidByText := true, laidKinds := [.data], laidTests := true, laidLooks := .later }
def CallsMoveUptoCardSaid : Prop := Claim7.holds Tryz.pinned (.plain (OpenSpec.upto callsMoveSpec)) callsMoveUptoCard
end Rows
end Go.Proofs.YtidhceebafmlkaaGreatDoor
