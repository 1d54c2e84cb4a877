/-
  DERIVED. GIVEN WITH THE SEED: THE CARDS: each row of YtijknodbaddelaaDoorRows.lean that lists a variable, with what it lists TIED to the program's text (the seventh form; the later family's looks); each row that meets fmt, with fmt's text TOLD by the authors' own Lean function (tested against real Go, not proved from fmt's source: count such statements apart). THE CARD IS WHAT COUNTS. Prove the row's statement (the work); the ties are given (YtijknodbaddelaaDoorTie.lean); close each card by the builder's one call (the guide's Derived/Test/ToyasCard.lean, 'card_holds'). Laid BY PROGRAM, IN A SANDBOX (cutbox-door.mjs). By AI agents, Wed Nov 11 2026. No macro, syntax, notation, axiom, sorry.
-/
import Derived.Test.YtijknodbaddelaaDoorRows
import GoSem.ClaimSeven
namespace Go.Proofs.YtijknodbaddelaaDoor
namespace Rows

/-- THE TIED CARD OF 'toolchestlaw10.ModesBack'. -/
def modesBackCard : Claim7 := { stood := { row := modesBackRow, standIns := [], harness := (true, "1ab92f5561b7f5cd135bc6cf7da2959be7950ab3351d6fe64ee44692a5f6f4a2"), looks := false }, kinds := [], alts := [], laidByText := true, laidKinds := [.data, .pinned], laidTests := true, laidLooks := .later }
def ModesBackCardSaid : Prop := Claim7.holds Tryd.pinned (.plain (OpenSpec.ofChange modesBackSpec)) modesBackCard

/-- THE TIED CARD OF 'toolchestlaw10.ModesSigns'. -/
def modesSignsCard : Claim7 := { stood := { row := modesSignsRow, standIns := [], harness := (true, "1ab92f5561b7f5cd135bc6cf7da2959be7950ab3351d6fe64ee44692a5f6f4a2"), looks := false }, kinds := [], alts := [], laidByText := true, laidKinds := [.data, .pinned], laidTests := true, laidLooks := .later }
def ModesSignsCardSaid : Prop := Claim7.holds Tryd.pinned (.plain (OpenSpec.ofChange modesSignsSpec)) modesSignsCard

/-- THE TIED CARD OF 'toolchestlaw10.ModesAgain'. -/
def modesAgainCard : Claim7 := { stood := { row := modesAgainRow, standIns := [], harness := (true, "1ab92f5561b7f5cd135bc6cf7da2959be7950ab3351d6fe64ee44692a5f6f4a2"), looks := false }, kinds := [], alts := [], laidByText := true, laidKinds := [.data, .pinned], laidTests := true, laidLooks := .later }
def ModesAgainCardSaid : Prop := Claim7.holds Tryd.pinned (.plain (OpenSpec.ofChange modesAgainSpec)) modesAgainCard

/-- THE SECOND FORM's CARD OF 'toolchestlaw10.ModesBack'. -/
def modesBackUptoCard : Claim7 := { stood := { row := modesBackUptoRow, standIns := [], harness := (true, "1ab92f5561b7f5cd135bc6cf7da2959be7950ab3351d6fe64ee44692a5f6f4a2"), looks := false }, kinds := [], alts := [], laidByText := true, laidKinds := [.data, .pinned], laidTests := true, laidLooks := .later }
def ModesBackUptoCardSaid : Prop := Claim7.holds Tryd.pinned (.plain (OpenSpec.upto modesBackSpec)) modesBackUptoCard

/-- THE SECOND FORM's CARD OF 'toolchestlaw10.ModesSigns'. -/
def modesSignsUptoCard : Claim7 := { stood := { row := modesSignsUptoRow, standIns := [], harness := (true, "1ab92f5561b7f5cd135bc6cf7da2959be7950ab3351d6fe64ee44692a5f6f4a2"), looks := false }, kinds := [], alts := [], laidByText := true, laidKinds := [.data, .pinned], laidTests := true, laidLooks := .later }
def ModesSignsUptoCardSaid : Prop := Claim7.holds Tryd.pinned (.plain (OpenSpec.upto modesSignsSpec)) modesSignsUptoCard

/-- THE SECOND FORM's CARD OF 'toolchestlaw10.ModesAgain'. -/
def modesAgainUptoCard : Claim7 := { stood := { row := modesAgainUptoRow, standIns := [], harness := (true, "1ab92f5561b7f5cd135bc6cf7da2959be7950ab3351d6fe64ee44692a5f6f4a2"), looks := false }, kinds := [], alts := [], laidByText := true, laidKinds := [.data, .pinned], laidTests := true, laidLooks := .later }
def ModesAgainUptoCardSaid : Prop := Claim7.holds Tryd.pinned (.plain (OpenSpec.upto modesAgainSpec)) modesAgainUptoCard
end Rows
end Go.Proofs.YtijknodbaddelaaDoor
