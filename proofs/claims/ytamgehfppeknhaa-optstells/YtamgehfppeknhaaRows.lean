/-
  No cell of these rows narrows 'for every input' (looked for: loops, veiled, ifaces, maps, wideKeys, modest, calm, conditions, laid).
  DERIVED. THE GIVEN ROWS OF THIS SEAT. 5 by the template 'for every input the law returns true; each argument reads behind the call as it read before'; 0 by the template 'total and deterministic' (their statements: YtamgehfppeknhaaTotals.lean).
  GIVEN WITH THE SEED: the statements are not yours to turn. If you find one false, say at which input.
  Laid BY PROGRAM, IN A SANDBOX (cutbox-rows.mjs): the forced cells as the released guide's own fill.sh prints them over the translation 50b5cc7810fe12a4… (all of the seat's roots in one cut). By AI agents, Wed Nov 11 2026. No macro, syntax, notation, axiom, sorry.
-/
import Derived.Test.YtamgehfppeknhaaChecked
import GoSem.Claim
import GoSem.ClaimJoined
import GoSem.ClaimMapViews
import Derived.JoinedTies
import Derived.KernelRfl
namespace Go.Proofs.Ytamgehfppeknhaa
/- THE CELL 'sum', in the pinned program and in every row, IS THE sha256 OF THE DUMP (.gsa) THAT YtamgehfppeknhaaProg.lean LOADS. Nothing in Lean hashes anything: it is a label: what it is worth is what the hold of that sum in a sandbox is worth. -/
noncomputable def Try.pinned : Pinned := { name := "ytamgehfppeknhaa", sum := "50b5cc7810fe12a4ec691cf88c97a74737612b5207a4ac7515bc2d846167073c", checked := Try.checked }
namespace Rows
def none {H : Type} : Left H := { results := [], args := [] }

/-- 'toolchestlaw01.OptsTells': WHATEVER THE INPUT: true; the input reads as it did. -/
def optsTellsSpec : ChangeSpec := { name := "optsTells", fn := fun _ => fun
  | [d1, d2] => { results := [.lit (.bool true)], args := [d1, d2] }
  | _ => none }
def optsTellsRow : OpenClaim := { program := "ytamgehfppeknhaa", sum := "50b5cc7810fe12a4ec691cf88c97a74737612b5207a4ac7515bc2d846167073c", func := "toolchest/toolchestlaw01.OptsTells", spec := "optsTells", apart := false }
def OptsTellsSaid : Prop := optsTellsRow.holds Try.pinned (OpenSpec.ofChange optsTellsSpec)

/-- ITS FALSE NEIGHBOUR: 'it returns false'. Refute it at one input. -/
def optsTellsWrong : ChangeSpec := { name := "optsTells", fn := fun _ => fun
  | [d1, d2] => { results := [.lit (.bool false)], args := [d1, d2] }
  | _ => none }
def OptsTellsWrongFalsely : Prop := optsTellsRow.holds Try.pinned (OpenSpec.ofChange optsTellsWrong)

/-- 'toolchestlaw01.OptsNumbers': WHATEVER THE INPUT: true; the input reads as it did. -/
def optsNumbersSpec : ChangeSpec := { name := "optsNumbers", fn := fun _ => fun
  | [d] => { results := [.lit (.bool true)], args := [d] }
  | _ => none }
def optsNumbersRow : OpenClaim := { program := "ytamgehfppeknhaa", sum := "50b5cc7810fe12a4ec691cf88c97a74737612b5207a4ac7515bc2d846167073c", func := "toolchest/toolchestlaw01.OptsNumbers", spec := "optsNumbers", apart := false }
def OptsNumbersSaid : Prop := optsNumbersRow.holds Try.pinned (OpenSpec.ofChange optsNumbersSpec)

/-- ITS FALSE NEIGHBOUR: 'it returns false'. Refute it at one input. -/
def optsNumbersWrong : ChangeSpec := { name := "optsNumbers", fn := fun _ => fun
  | [d] => { results := [.lit (.bool false)], args := [d] }
  | _ => none }
def OptsNumbersWrongFalsely : Prop := optsNumbersRow.holds Try.pinned (OpenSpec.ofChange optsNumbersWrong)

/-- 'toolchestlaw01.OptsEnd': WHATEVER THE INPUT: true; the input reads as it did. -/
def optsEndSpec : ChangeSpec := { name := "optsEnd", fn := fun _ => fun
  | [d1, d2, d3] => { results := [.lit (.bool true)], args := [d1, d2, d3] }
  | _ => none }
def optsEndRow : OpenClaim := { program := "ytamgehfppeknhaa", sum := "50b5cc7810fe12a4ec691cf88c97a74737612b5207a4ac7515bc2d846167073c", func := "toolchest/toolchestlaw01.OptsEnd", spec := "optsEnd", unfollowed := true, recurses := true, apart := false }
def OptsEndSaid : Prop := optsEndRow.holds Try.pinned (OpenSpec.ofChange optsEndSpec)

/-- ITS FALSE NEIGHBOUR: 'it returns false'. Refute it at one input. -/
def optsEndWrong : ChangeSpec := { name := "optsEnd", fn := fun _ => fun
  | [d1, d2, d3] => { results := [.lit (.bool false)], args := [d1, d2, d3] }
  | _ => none }
def OptsEndWrongFalsely : Prop := optsEndRow.holds Try.pinned (OpenSpec.ofChange optsEndWrong)

/-- 'toolchestlaw01.OptsWords': WHATEVER THE INPUT: true; the input reads as it did. -/
def optsWordsSpec : ChangeSpec := { name := "optsWords", fn := fun _ => fun
  | [d] => { results := [.lit (.bool true)], args := [d] }
  | _ => none }
def optsWordsRow : OpenClaim := { program := "ytamgehfppeknhaa", sum := "50b5cc7810fe12a4ec691cf88c97a74737612b5207a4ac7515bc2d846167073c", func := "toolchest/toolchestlaw01.OptsWords", spec := "optsWords", unfollowed := true, recurses := true, apart := false }
def OptsWordsSaid : Prop := optsWordsRow.holds Try.pinned (OpenSpec.ofChange optsWordsSpec)

/-- ITS FALSE NEIGHBOUR: 'it returns false'. Refute it at one input. -/
def optsWordsWrong : ChangeSpec := { name := "optsWords", fn := fun _ => fun
  | [d] => { results := [.lit (.bool false)], args := [d] }
  | _ => none }
def OptsWordsWrongFalsely : Prop := optsWordsRow.holds Try.pinned (OpenSpec.ofChange optsWordsWrong)

/-- 'toolchestlaw01.OptsTold': WHATEVER THE INPUT: true; the input reads as it did. -/
def optsToldSpec : ChangeSpec := { name := "optsTold", fn := fun _ => fun
  | [d1, d2] => { results := [.lit (.bool true)], args := [d1, d2] }
  | _ => none }
def optsToldRow : OpenClaim := { program := "ytamgehfppeknhaa", sum := "50b5cc7810fe12a4ec691cf88c97a74737612b5207a4ac7515bc2d846167073c", func := "toolchest/toolchestlaw01.OptsTold", spec := "optsTold", unfollowed := true, recurses := true, apart := false }
def OptsToldSaid : Prop := optsToldRow.holds Try.pinned (OpenSpec.ofChange optsToldSpec)

/-- ITS FALSE NEIGHBOUR: 'it returns false'. Refute it at one input. -/
def optsToldWrong : ChangeSpec := { name := "optsTold", fn := fun _ => fun
  | [d1, d2] => { results := [.lit (.bool false)], args := [d1, d2] }
  | _ => none }
def OptsToldWrongFalsely : Prop := optsToldRow.holds Try.pinned (OpenSpec.ofChange optsToldWrong)

/- THE SECOND FORM. 'bulk': how many values and letters a reading holds, each counted each time it is reached (what is shared counts as often as it is met; a slice's spare places count too). A statement '..UptoSaid' is the law's where the arguments, and the package variables that the reading takes, are together of bulk at most 1048576: NARROWER than '..Said'. Prove '..Said' where nothing that the law and all that it calls make is longer than what came in: it says more and counts as full. Else prove '..UptoSaid'. A law counts once. -/
mutual
def uptoBulk {H : Type} : DataW H → Nat
  | .lit (.string bytes) => bytes.length + 1
  | .lit _ => 1
  | .nil => 1
  | .ptr d => uptoBulk d + 1
  | .slice elems spare => uptoBulkAll elems + uptoBulkAll spare + 1
  | .agg parts => uptoBulkAll parts + 1
  | .iface _ d => uptoBulk d + 1
  | .map entries => uptoBulkEntries entries + 1
  | .held _ => 1
def uptoBulkAll {H : Type} : List (DataW H) → Nat
  | [] => 0
  | d :: r => uptoBulk d + uptoBulkAll r
def uptoBulkEntries {H : Type} : List (Lit × DataW H) → Nat
  | [] => 0
  | x :: r => uptoBulkEntry x + uptoBulkEntries r
def uptoBulkEntry {H : Type} : Lit × DataW H → Nat
  | (.string bytes, d) => bytes.length + uptoBulk d + 1
  | (_, d) => uptoBulk d + 1
 end
def uptoSmall : (H : Type) → List (DataW H) → Bool := fun _ ds => decide (uptoBulkAll ds ≤ 1048576)
def OpenSpec.upto (s : _root_.Go.ChangeSpec) : _root_.Go.OpenSpec := { _root_.Go.OpenSpec.ofChange s with cond := some uptoSmall }

/-- 'toolchestlaw01.OptsTells', WHERE WHAT IT READS IS OF BULK AT MOST 1048576: true; the input reads as it did. -/
def optsTellsUptoRow : OpenClaim := { program := "ytamgehfppeknhaa", sum := "50b5cc7810fe12a4ec691cf88c97a74737612b5207a4ac7515bc2d846167073c", func := "toolchest/toolchestlaw01.OptsTells", spec := "optsTells", apart := false, narrowed := true }
def OptsTellsUptoSaid : Prop := optsTellsUptoRow.holds Try.pinned (OpenSpec.upto optsTellsSpec)

/-- 'toolchestlaw01.OptsNumbers', WHERE WHAT IT READS IS OF BULK AT MOST 1048576: true; the input reads as it did. -/
def optsNumbersUptoRow : OpenClaim := { program := "ytamgehfppeknhaa", sum := "50b5cc7810fe12a4ec691cf88c97a74737612b5207a4ac7515bc2d846167073c", func := "toolchest/toolchestlaw01.OptsNumbers", spec := "optsNumbers", apart := false, narrowed := true }
def OptsNumbersUptoSaid : Prop := optsNumbersUptoRow.holds Try.pinned (OpenSpec.upto optsNumbersSpec)

/-- 'toolchestlaw01.OptsEnd', WHERE WHAT IT READS IS OF BULK AT MOST 1048576: true; the input reads as it did. -/
def optsEndUptoRow : OpenClaim := { program := "ytamgehfppeknhaa", sum := "50b5cc7810fe12a4ec691cf88c97a74737612b5207a4ac7515bc2d846167073c", func := "toolchest/toolchestlaw01.OptsEnd", spec := "optsEnd", unfollowed := true, recurses := true, apart := false, narrowed := true }
def OptsEndUptoSaid : Prop := optsEndUptoRow.holds Try.pinned (OpenSpec.upto optsEndSpec)

/-- 'toolchestlaw01.OptsWords', WHERE WHAT IT READS IS OF BULK AT MOST 1048576: true; the input reads as it did. -/
def optsWordsUptoRow : OpenClaim := { program := "ytamgehfppeknhaa", sum := "50b5cc7810fe12a4ec691cf88c97a74737612b5207a4ac7515bc2d846167073c", func := "toolchest/toolchestlaw01.OptsWords", spec := "optsWords", unfollowed := true, recurses := true, apart := false, narrowed := true }
def OptsWordsUptoSaid : Prop := optsWordsUptoRow.holds Try.pinned (OpenSpec.upto optsWordsSpec)

/-- 'toolchestlaw01.OptsTold', WHERE WHAT IT READS IS OF BULK AT MOST 1048576: true; the input reads as it did. -/
def optsToldUptoRow : OpenClaim := { program := "ytamgehfppeknhaa", sum := "50b5cc7810fe12a4ec691cf88c97a74737612b5207a4ac7515bc2d846167073c", func := "toolchest/toolchestlaw01.OptsTold", spec := "optsTold", unfollowed := true, recurses := true, apart := false, narrowed := true }
def OptsToldUptoSaid : Prop := optsToldUptoRow.holds Try.pinned (OpenSpec.upto optsToldSpec)

end Rows
end Go.Proofs.Ytamgehfppeknhaa
