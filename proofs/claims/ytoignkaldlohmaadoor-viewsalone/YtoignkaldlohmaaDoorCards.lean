/-
  DERIVED. GIVEN WITH THE SEED: THE CARDS: each row of YtoignkaldlohmaaDoorRows.lean that lists a variable, with what it lists TIED to the program's text (the seventh form; the later family's looks); each row that meets fmt, with fmt's text TOLD by the authors' own Lean function (tested against real Go, not proved from fmt's source: count such statements apart). THE CARD IS WHAT COUNTS. Prove the row's statement (the work); the ties are given (YtoignkaldlohmaaDoorTie.lean); close each card by the builder's one call (the guide's Derived/Test/ToyasCard.lean, 'card_holds'). Laid BY PROGRAM, IN A SANDBOX (cutbox-door.mjs). By AI agents, Wed Nov 11 2026. No macro, syntax, notation, axiom, sorry.
-/
import Derived.Test.YtoignkaldlohmaaDoorRows
import GoSem.ClaimSeven
namespace Go.Proofs.YtoignkaldlohmaaDoor
namespace Rows

/-- THE TIED CARD OF 'toolchestlaw08.ViewsPastes'. -/
def viewsPastesCard : Claim7 := { stood := { row := viewsPastesRow, standIns := [], harness := (true, "f7235d7a4f8f47c4e9acc885773752845ab1d1ff8734d7598419ddff0701ed20"), looks := false }, kinds := [], alts := [], laidByText := true, laidKinds := [.data, .data, .data], laidTests := true, laidLooks := .later }
def ViewsPastesCardSaid : Prop := Claim7.holds Tryd.pinned (.plain (OpenSpec.ofChange viewsPastesSpec)) viewsPastesCard

/-- THE TIED CARD OF 'toolchestlaw08.ViewsSums'. -/
def viewsSumsCard : Claim7 := { stood := { row := viewsSumsRow, standIns := [], harness := (true, "f7235d7a4f8f47c4e9acc885773752845ab1d1ff8734d7598419ddff0701ed20"), looks := false }, kinds := [], alts := [], laidByText := true, laidKinds := [.data, .data, .data], laidTests := true, laidLooks := .later }
def ViewsSumsCardSaid : Prop := Claim7.holds Tryd.pinned (.plain (OpenSpec.ofChange viewsSumsSpec)) viewsSumsCard

/-- THE TIED CARD OF 'toolchestlaw08.ViewsSame'. -/
def viewsSameCard : Claim7 := { stood := { row := viewsSameRow, standIns := [], harness := (true, "f7235d7a4f8f47c4e9acc885773752845ab1d1ff8734d7598419ddff0701ed20"), looks := false }, kinds := [], alts := [], laidByText := true, laidKinds := [.data, .data, .data], laidTests := true, laidLooks := .later }
def ViewsSameCardSaid : Prop := Claim7.holds Tryd.pinned (.plain (OpenSpec.ofChange viewsSameSpec)) viewsSameCard

/-- THE TIED CARD OF 'toolchestlaw08.ViewsAlone'. -/
def viewsAloneCard : Claim7 := { stood := { row := viewsAloneRow, standIns := [], harness := (true, "f7235d7a4f8f47c4e9acc885773752845ab1d1ff8734d7598419ddff0701ed20"), looks := false }, kinds := [], alts := [], laidByText := true, laidKinds := [.data, .data, .data], laidTests := true, laidLooks := .later }
def ViewsAloneCardSaid : Prop := Claim7.holds Tryd.pinned (.plain (OpenSpec.ofChange viewsAloneSpec)) viewsAloneCard

/-- THE SECOND FORM's CARD OF 'toolchestlaw08.ViewsPastes'. -/
def viewsPastesUptoCard : Claim7 := { stood := { row := viewsPastesUptoRow, standIns := [], harness := (true, "f7235d7a4f8f47c4e9acc885773752845ab1d1ff8734d7598419ddff0701ed20"), looks := false }, kinds := [], alts := [], laidByText := true, laidKinds := [.data, .data, .data], laidTests := true, laidLooks := .later }
def ViewsPastesUptoCardSaid : Prop := Claim7.holds Tryd.pinned (.plain (OpenSpec.upto viewsPastesSpec)) viewsPastesUptoCard

/-- THE SECOND FORM's CARD OF 'toolchestlaw08.ViewsSums'. -/
def viewsSumsUptoCard : Claim7 := { stood := { row := viewsSumsUptoRow, standIns := [], harness := (true, "f7235d7a4f8f47c4e9acc885773752845ab1d1ff8734d7598419ddff0701ed20"), looks := false }, kinds := [], alts := [], laidByText := true, laidKinds := [.data, .data, .data], laidTests := true, laidLooks := .later }
def ViewsSumsUptoCardSaid : Prop := Claim7.holds Tryd.pinned (.plain (OpenSpec.upto viewsSumsSpec)) viewsSumsUptoCard

/-- THE SECOND FORM's CARD OF 'toolchestlaw08.ViewsSame'. -/
def viewsSameUptoCard : Claim7 := { stood := { row := viewsSameUptoRow, standIns := [], harness := (true, "f7235d7a4f8f47c4e9acc885773752845ab1d1ff8734d7598419ddff0701ed20"), looks := false }, kinds := [], alts := [], laidByText := true, laidKinds := [.data, .data, .data], laidTests := true, laidLooks := .later }
def ViewsSameUptoCardSaid : Prop := Claim7.holds Tryd.pinned (.plain (OpenSpec.upto viewsSameSpec)) viewsSameUptoCard

/-- THE SECOND FORM's CARD OF 'toolchestlaw08.ViewsAlone'. -/
def viewsAloneUptoCard : Claim7 := { stood := { row := viewsAloneUptoRow, standIns := [], harness := (true, "f7235d7a4f8f47c4e9acc885773752845ab1d1ff8734d7598419ddff0701ed20"), looks := false }, kinds := [], alts := [], laidByText := true, laidKinds := [.data, .data, .data], laidTests := true, laidLooks := .later }
def ViewsAloneUptoCardSaid : Prop := Claim7.holds Tryd.pinned (.plain (OpenSpec.upto viewsAloneSpec)) viewsAloneUptoCard
end Rows
end Go.Proofs.YtoignkaldlohmaaDoor
