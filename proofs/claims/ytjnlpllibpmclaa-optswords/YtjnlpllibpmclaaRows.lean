/-
  No cell of these rows narrows 'for every input' (looked for: loops, veiled, ifaces, maps, wideKeys, modest, calm, conditions, laid).
  DERIVED. THE GIVEN ROWS OF THIS SEAT. 6 by the template 'for every input the law returns true; each argument reads behind the call as it read before'; 0 by the template 'total and deterministic' (their statements: YtjnlpllibpmclaaTotals.lean).
  GIVEN WITH THE SEED: the statements are not yours to turn. If you find one false, say at which input.
  Laid BY PROGRAM, IN A SANDBOX (cutbox-rows.mjs): the forced cells as the released guide's own fill.sh prints them over the translation 3e6883b6b7699a99… (all of the seat's roots in one cut). By AI agents, Wed Nov 11 2026. No macro, syntax, notation, axiom, sorry.
-/
import Derived.Test.YtjnlpllibpmclaaChecked
import GoSem.Claim
import GoSem.ClaimJoined
import GoSem.ClaimMapViews
import Derived.JoinedTies
import Derived.KernelRfl
namespace Go.Proofs.Ytjnlpllibpmclaa
/- THE CELL 'sum', in the pinned program and in every row, IS THE sha256 OF THE DUMP (.gsa) THAT YtjnlpllibpmclaaProg.lean LOADS. Nothing in Lean hashes anything: it is a label: what it is worth is what the hold of that sum in a sandbox is worth. -/
noncomputable def Try.pinned : Pinned := { name := "ytjnlpllibpmclaa", sum := "3e6883b6b7699a9956d6ec066709ee3ab447116a55d9bf00bdb37a5a6d892d72", checked := Try.checked }
namespace Rows
def none {H : Type} : Left H := { results := [], args := [] }

/-- 'toolchestlaw01.OptsEnd': WHATEVER THE INPUT: true; the input reads as it did. -/
def optsEndSpec : ChangeSpec := { name := "optsEnd", fn := fun _ => fun
  | [d1, d2, d3] => { results := [.lit (.bool true)], args := [d1, d2, d3] }
  | _ => none }
def optsEndRow : OpenClaim := { program := "ytjnlpllibpmclaa", sum := "3e6883b6b7699a9956d6ec066709ee3ab447116a55d9bf00bdb37a5a6d892d72", func := "toolchest/toolchestlaw01.OptsEnd", spec := "optsEnd", unfollowed := true, recurses := true, apart := false }
def OptsEndSaid : Prop := optsEndRow.holds Try.pinned (OpenSpec.ofChange optsEndSpec)

/-- ITS FALSE NEIGHBOUR: 'it returns false'. Refute it at one input. -/
def optsEndWrong : ChangeSpec := { name := "optsEnd", fn := fun _ => fun
  | [d1, d2, d3] => { results := [.lit (.bool false)], args := [d1, d2, d3] }
  | _ => none }
def OptsEndWrongFalsely : Prop := optsEndRow.holds Try.pinned (OpenSpec.ofChange optsEndWrong)

/-- 'toolchestlaw01.OptsWords': WHATEVER THE INPUT: true; the input reads as it did. -/
def optsWordsSpec : ChangeSpec := { name := "optsWords", fn := fun _ => fun
  | [d] => { results := [.lit (.bool true)], args := [d] }
  | _ => none }
def optsWordsRow : OpenClaim := { program := "ytjnlpllibpmclaa", sum := "3e6883b6b7699a9956d6ec066709ee3ab447116a55d9bf00bdb37a5a6d892d72", func := "toolchest/toolchestlaw01.OptsWords", spec := "optsWords", unfollowed := true, recurses := true, apart := false }
def OptsWordsSaid : Prop := optsWordsRow.holds Try.pinned (OpenSpec.ofChange optsWordsSpec)

/-- ITS FALSE NEIGHBOUR: 'it returns false'. Refute it at one input. -/
def optsWordsWrong : ChangeSpec := { name := "optsWords", fn := fun _ => fun
  | [d] => { results := [.lit (.bool false)], args := [d] }
  | _ => none }
def OptsWordsWrongFalsely : Prop := optsWordsRow.holds Try.pinned (OpenSpec.ofChange optsWordsWrong)

/-- 'toolchestlaw01.OptsTold': WHATEVER THE INPUT: true; the input reads as it did. -/
def optsToldSpec : ChangeSpec := { name := "optsTold", fn := fun _ => fun
  | [d1, d2] => { results := [.lit (.bool true)], args := [d1, d2] }
  | _ => none }
def optsToldRow : OpenClaim := { program := "ytjnlpllibpmclaa", sum := "3e6883b6b7699a9956d6ec066709ee3ab447116a55d9bf00bdb37a5a6d892d72", func := "toolchest/toolchestlaw01.OptsTold", spec := "optsTold", unfollowed := true, recurses := true, apart := false }
def OptsToldSaid : Prop := optsToldRow.holds Try.pinned (OpenSpec.ofChange optsToldSpec)

/-- ITS FALSE NEIGHBOUR: 'it returns false'. Refute it at one input. -/
def optsToldWrong : ChangeSpec := { name := "optsTold", fn := fun _ => fun
  | [d1, d2] => { results := [.lit (.bool false)], args := [d1, d2] }
  | _ => none }
def OptsToldWrongFalsely : Prop := optsToldRow.holds Try.pinned (OpenSpec.ofChange optsToldWrong)

/-- 'toolchestlaw01.OptsNone': WHATEVER THE INPUT: true; the input reads as it did. -/
def optsNoneSpec : ChangeSpec := { name := "optsNone", fn := fun _ => fun
  | [d1, d2] => { results := [.lit (.bool true)], args := [d1, d2] }
  | _ => none }
def optsNoneRow : OpenClaim := { program := "ytjnlpllibpmclaa", sum := "3e6883b6b7699a9956d6ec066709ee3ab447116a55d9bf00bdb37a5a6d892d72", func := "toolchest/toolchestlaw01.OptsNone", spec := "optsNone", unfollowed := true, recurses := true, apart := false }
def OptsNoneSaid : Prop := optsNoneRow.holds Try.pinned (OpenSpec.ofChange optsNoneSpec)

/-- ITS FALSE NEIGHBOUR: 'it returns false'. Refute it at one input. -/
def optsNoneWrong : ChangeSpec := { name := "optsNone", fn := fun _ => fun
  | [d1, d2] => { results := [.lit (.bool false)], args := [d1, d2] }
  | _ => none }
def OptsNoneWrongFalsely : Prop := optsNoneRow.holds Try.pinned (OpenSpec.ofChange optsNoneWrong)

/-- 'toolchestlaw01.OptsCounts': WHATEVER THE INPUT: true; the input reads as it did. -/
def optsCountsSpec : ChangeSpec := { name := "optsCounts", fn := fun _ => fun
  | [d1, d2, d3] => { results := [.lit (.bool true)], args := [d1, d2, d3] }
  | _ => none }
def optsCountsRow : OpenClaim := { program := "ytjnlpllibpmclaa", sum := "3e6883b6b7699a9956d6ec066709ee3ab447116a55d9bf00bdb37a5a6d892d72", func := "toolchest/toolchestlaw01.OptsCounts", spec := "optsCounts", unfollowed := true, recurses := true, apart := false }
def OptsCountsSaid : Prop := optsCountsRow.holds Try.pinned (OpenSpec.ofChange optsCountsSpec)

/-- ITS FALSE NEIGHBOUR: 'it returns false'. Refute it at one input. -/
def optsCountsWrong : ChangeSpec := { name := "optsCounts", fn := fun _ => fun
  | [d1, d2, d3] => { results := [.lit (.bool false)], args := [d1, d2, d3] }
  | _ => none }
def OptsCountsWrongFalsely : Prop := optsCountsRow.holds Try.pinned (OpenSpec.ofChange optsCountsWrong)

/-- 'toolchestlaw01.OptsDigits': WHATEVER THE INPUT: true; the input reads as it did. -/
def optsDigitsSpec : ChangeSpec := { name := "optsDigits", fn := fun _ => fun
  | [d1, d2, d3] => { results := [.lit (.bool true)], args := [d1, d2, d3] }
  | _ => none }
def optsDigitsRow : OpenClaim := { program := "ytjnlpllibpmclaa", sum := "3e6883b6b7699a9956d6ec066709ee3ab447116a55d9bf00bdb37a5a6d892d72", func := "toolchest/toolchestlaw01.OptsDigits", spec := "optsDigits", unfollowed := true, recurses := true, apart := false }
def OptsDigitsSaid : Prop := optsDigitsRow.holds Try.pinned (OpenSpec.ofChange optsDigitsSpec)

/-- ITS FALSE NEIGHBOUR: 'it returns false'. Refute it at one input. -/
def optsDigitsWrong : ChangeSpec := { name := "optsDigits", fn := fun _ => fun
  | [d1, d2, d3] => { results := [.lit (.bool false)], args := [d1, d2, d3] }
  | _ => none }
def OptsDigitsWrongFalsely : Prop := optsDigitsRow.holds Try.pinned (OpenSpec.ofChange optsDigitsWrong)

/- THE SECOND FORM. 'bulk': how many values and letters a reading holds, each counted each time it is reached (what is shared counts as often as it is met; a slice's spare places count too). A statement '..UptoSaid' is the law's where the arguments, and the package variables that the reading takes, are together of bulk at most 1048576: NARROWER than '..Said'. Prove '..Said' where nothing that the law and all that it calls make is longer than what came in: it says more and counts as full. Else prove '..UptoSaid'. A law counts once. -/
mutual
def uptoBulk {H : Type} : DataW H → Nat
  | .lit (.string bytes) => bytes.length + 1
  | .lit _ => 1
  | .nil => 1
  | .ptr d => uptoBulk d + 1
  | .slice elems spare => uptoBulkAll elems + uptoBulkAll spare + 1
  | .agg parts => uptoBulkAll parts + 1
  | .iface _ d => uptoBulk d + 1
  | .map entries => uptoBulkEntries entries + 1
  | .held _ => 1
def uptoBulkAll {H : Type} : List (DataW H) → Nat
  | [] => 0
  | d :: r => uptoBulk d + uptoBulkAll r
def uptoBulkEntries {H : Type} : List (Lit × DataW H) → Nat
  | [] => 0
  | x :: r => uptoBulkEntry x + uptoBulkEntries r
def uptoBulkEntry {H : Type} : Lit × DataW H → Nat
  | (.string bytes, d) => bytes.length + uptoBulk d + 1
  | (_, d) => uptoBulk d + 1
 end
def uptoSmall : (H : Type) → List (DataW H) → Bool := fun _ ds => decide (uptoBulkAll ds ≤ 1048576)
def OpenSpec.upto (s : _root_.Go.ChangeSpec) : _root_.Go.OpenSpec := { _root_.Go.OpenSpec.ofChange s with cond := some uptoSmall }

/-- 'toolchestlaw01.OptsEnd', WHERE WHAT IT READS IS OF BULK AT MOST 1048576: true; the input reads as it did. -/
def optsEndUptoRow : OpenClaim := { program := "ytjnlpllibpmclaa", sum := "3e6883b6b7699a9956d6ec066709ee3ab447116a55d9bf00bdb37a5a6d892d72", func := "toolchest/toolchestlaw01.OptsEnd", spec := "optsEnd", unfollowed := true, recurses := true, apart := false, narrowed := true }
def OptsEndUptoSaid : Prop := optsEndUptoRow.holds Try.pinned (OpenSpec.upto optsEndSpec)

/-- 'toolchestlaw01.OptsWords', WHERE WHAT IT READS IS OF BULK AT MOST 1048576: true; the input reads as it did. -/
def optsWordsUptoRow : OpenClaim := { program := "ytjnlpllibpmclaa", sum := "3e6883b6b7699a9956d6ec066709ee3ab447116a55d9bf00bdb37a5a6d892d72", func := "toolchest/toolchestlaw01.OptsWords", spec := "optsWords", unfollowed := true, recurses := true, apart := false, narrowed := true }
def OptsWordsUptoSaid : Prop := optsWordsUptoRow.holds Try.pinned (OpenSpec.upto optsWordsSpec)

/-- 'toolchestlaw01.OptsTold', WHERE WHAT IT READS IS OF BULK AT MOST 1048576: true; the input reads as it did. -/
def optsToldUptoRow : OpenClaim := { program := "ytjnlpllibpmclaa", sum := "3e6883b6b7699a9956d6ec066709ee3ab447116a55d9bf00bdb37a5a6d892d72", func := "toolchest/toolchestlaw01.OptsTold", spec := "optsTold", unfollowed := true, recurses := true, apart := false, narrowed := true }
def OptsToldUptoSaid : Prop := optsToldUptoRow.holds Try.pinned (OpenSpec.upto optsToldSpec)

/-- 'toolchestlaw01.OptsNone', WHERE WHAT IT READS IS OF BULK AT MOST 1048576: true; the input reads as it did. -/
def optsNoneUptoRow : OpenClaim := { program := "ytjnlpllibpmclaa", sum := "3e6883b6b7699a9956d6ec066709ee3ab447116a55d9bf00bdb37a5a6d892d72", func := "toolchest/toolchestlaw01.OptsNone", spec := "optsNone", unfollowed := true, recurses := true, apart := false, narrowed := true }
def OptsNoneUptoSaid : Prop := optsNoneUptoRow.holds Try.pinned (OpenSpec.upto optsNoneSpec)

/-- 'toolchestlaw01.OptsCounts', WHERE WHAT IT READS IS OF BULK AT MOST 1048576: true; the input reads as it did. -/
def optsCountsUptoRow : OpenClaim := { program := "ytjnlpllibpmclaa", sum := "3e6883b6b7699a9956d6ec066709ee3ab447116a55d9bf00bdb37a5a6d892d72", func := "toolchest/toolchestlaw01.OptsCounts", spec := "optsCounts", unfollowed := true, recurses := true, apart := false, narrowed := true }
def OptsCountsUptoSaid : Prop := optsCountsUptoRow.holds Try.pinned (OpenSpec.upto optsCountsSpec)

/-- 'toolchestlaw01.OptsDigits', WHERE WHAT IT READS IS OF BULK AT MOST 1048576: true; the input reads as it did. -/
def optsDigitsUptoRow : OpenClaim := { program := "ytjnlpllibpmclaa", sum := "3e6883b6b7699a9956d6ec066709ee3ab447116a55d9bf00bdb37a5a6d892d72", func := "toolchest/toolchestlaw01.OptsDigits", spec := "optsDigits", unfollowed := true, recurses := true, apart := false, narrowed := true }
def OptsDigitsUptoSaid : Prop := optsDigitsUptoRow.holds Try.pinned (OpenSpec.upto optsDigitsSpec)

end Rows
end Go.Proofs.Ytjnlpllibpmclaa
