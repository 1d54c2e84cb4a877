/-
  No cell of these rows narrows 'for every input' (looked for: loops, veiled, ifaces, maps, wideKeys, modest, calm, conditions, laid).
  DERIVED. THE GIVEN ROWS OF THIS SEAT. 3 by the template 'for every input the law returns true; each argument reads behind the call as it read before'; 0 by the template 'total and deterministic' (their statements: YtjgboecifonjdabTotals.lean).
  GIVEN WITH THE SEED: the statements are not yours to turn. If you find one false, say at which input.
  Laid BY PROGRAM, IN A SANDBOX (cutbox-rows.mjs): the forced cells as the released guide's own fill.sh prints them over the translation bda6805650cac5df… (all of the seat's roots in one cut). By AI agents, Wed Nov 11 2026. No macro, syntax, notation, axiom, sorry.
-/
import Derived.Test.YtjgboecifonjdabChecked
import GoSem.Claim
import GoSem.ClaimJoined
import GoSem.ClaimMapViews
import Derived.JoinedTies
import Derived.KernelRfl
namespace Go.Proofs.Ytjgboecifonjdab
/- THE CELL 'sum', in the pinned program and in every row, IS THE sha256 OF THE DUMP (.gsa) THAT YtjgboecifonjdabProg.lean LOADS. Nothing in Lean hashes anything: it is a label: what it is worth is what the hold of that sum in a sandbox is worth. -/
noncomputable def Try.pinned : Pinned := { name := "ytjgboecifonjdab", sum := "bda6805650cac5dfc3ee22685ba3a76093cd47061ca1d0fcf29c88cbbe79d070", checked := Try.checked }
namespace Rows
def none {H : Type} : Left H := { results := [], args := [] }

/-- 'toolchestlaw04.SetsDropped': WHATEVER THE INPUT: true; the input reads as it did. -/
def setsDroppedSpec : ChangeSpec := { name := "setsDropped", fn := fun _ => fun
  | [d1, d2] => { results := [.lit (.bool true)], args := [d1, d2] }
  | _ => none }
def setsDroppedRow : OpenClaim := { program := "ytjgboecifonjdab", sum := "bda6805650cac5dfc3ee22685ba3a76093cd47061ca1d0fcf29c88cbbe79d070", func := "toolchest/toolchestlaw04.SetsDropped", spec := "setsDropped", inPlace := ["internal/abi.NoEscape"], unfollowed := true, recurses := true, apart := false }
def SetsDroppedSaid : Prop := setsDroppedRow.holds Try.pinned (OpenSpec.ofChange setsDroppedSpec)

/-- ITS FALSE NEIGHBOUR: 'it returns false'. Refute it at one input. -/
def setsDroppedWrong : ChangeSpec := { name := "setsDropped", fn := fun _ => fun
  | [d1, d2] => { results := [.lit (.bool false)], args := [d1, d2] }
  | _ => none }
def SetsDroppedWrongFalsely : Prop := setsDroppedRow.holds Try.pinned (OpenSpec.ofChange setsDroppedWrong)

/-- 'toolchestlaw04.SetsSingles': WHATEVER THE INPUT: true; the input reads as it did. -/
def setsSinglesSpec : ChangeSpec := { name := "setsSingles", fn := fun _ => fun
  | [d1, d2, d3] => { results := [.lit (.bool true)], args := [d1, d2, d3] }
  | _ => none }
def setsSinglesRow : OpenClaim := { program := "ytjgboecifonjdab", sum := "bda6805650cac5dfc3ee22685ba3a76093cd47061ca1d0fcf29c88cbbe79d070", func := "toolchest/toolchestlaw04.SetsSingles", spec := "setsSingles", inPlace := ["internal/abi.NoEscape"], unfollowed := true, recurses := true, apart := false }
def SetsSinglesSaid : Prop := setsSinglesRow.holds Try.pinned (OpenSpec.ofChange setsSinglesSpec)

/-- ITS FALSE NEIGHBOUR: 'it returns false'. Refute it at one input. -/
def setsSinglesWrong : ChangeSpec := { name := "setsSingles", fn := fun _ => fun
  | [d1, d2, d3] => { results := [.lit (.bool false)], args := [d1, d2, d3] }
  | _ => none }
def SetsSinglesWrongFalsely : Prop := setsSinglesRow.holds Try.pinned (OpenSpec.ofChange setsSinglesWrong)

/-- 'toolchestlaw04.SetsClasses': WHATEVER THE INPUT: true; the input reads as it did. -/
def setsClassesSpec : ChangeSpec := { name := "setsClasses", fn := fun _ => fun
  | [d] => { results := [.lit (.bool true)], args := [d] }
  | _ => none }
def setsClassesRow : OpenClaim := { program := "ytjgboecifonjdab", sum := "bda6805650cac5dfc3ee22685ba3a76093cd47061ca1d0fcf29c88cbbe79d070", func := "toolchest/toolchestlaw04.SetsClasses", spec := "setsClasses", inPlace := ["internal/abi.NoEscape"], unfollowed := true, recurses := true, apart := false }
def SetsClassesSaid : Prop := setsClassesRow.holds Try.pinned (OpenSpec.ofChange setsClassesSpec)

/-- ITS FALSE NEIGHBOUR: 'it returns false'. Refute it at one input. -/
def setsClassesWrong : ChangeSpec := { name := "setsClasses", fn := fun _ => fun
  | [d] => { results := [.lit (.bool false)], args := [d] }
  | _ => none }
def SetsClassesWrongFalsely : Prop := setsClassesRow.holds Try.pinned (OpenSpec.ofChange setsClassesWrong)

/- THE SECOND FORM. 'bulk': how many values and letters a reading holds, each counted each time it is reached (what is shared counts as often as it is met; a slice's spare places count too). A statement '..UptoSaid' is the law's where the arguments, and the package variables that the reading takes, are together of bulk at most 1048576: NARROWER than '..Said'. Prove '..Said' where nothing that the law and all that it calls make is longer than what came in: it says more and counts as full. Else prove '..UptoSaid'. A law counts once. -/
mutual
def uptoBulk {H : Type} : DataW H → Nat
  | .lit (.string bytes) => bytes.length + 1
  | .lit _ => 1
  | .nil => 1
  | .ptr d => uptoBulk d + 1
  | .slice elems spare => uptoBulkAll elems + uptoBulkAll spare + 1
  | .agg parts => uptoBulkAll parts + 1
  | .iface _ d => uptoBulk d + 1
  | .map entries => uptoBulkEntries entries + 1
  | .held _ => 1
def uptoBulkAll {H : Type} : List (DataW H) → Nat
  | [] => 0
  | d :: r => uptoBulk d + uptoBulkAll r
def uptoBulkEntries {H : Type} : List (Lit × DataW H) → Nat
  | [] => 0
  | x :: r => uptoBulkEntry x + uptoBulkEntries r
def uptoBulkEntry {H : Type} : Lit × DataW H → Nat
  | (.string bytes, d) => bytes.length + uptoBulk d + 1
  | (_, d) => uptoBulk d + 1
 end
def uptoSmall : (H : Type) → List (DataW H) → Bool := fun _ ds => decide (uptoBulkAll ds ≤ 1048576)
def OpenSpec.upto (s : _root_.Go.ChangeSpec) : _root_.Go.OpenSpec := { _root_.Go.OpenSpec.ofChange s with cond := some uptoSmall }

/-- 'toolchestlaw04.SetsDropped', WHERE WHAT IT READS IS OF BULK AT MOST 1048576: true; the input reads as it did. -/
def setsDroppedUptoRow : OpenClaim := { program := "ytjgboecifonjdab", sum := "bda6805650cac5dfc3ee22685ba3a76093cd47061ca1d0fcf29c88cbbe79d070", func := "toolchest/toolchestlaw04.SetsDropped", spec := "setsDropped", inPlace := ["internal/abi.NoEscape"], unfollowed := true, recurses := true, apart := false, narrowed := true }
def SetsDroppedUptoSaid : Prop := setsDroppedUptoRow.holds Try.pinned (OpenSpec.upto setsDroppedSpec)

/-- 'toolchestlaw04.SetsSingles', WHERE WHAT IT READS IS OF BULK AT MOST 1048576: true; the input reads as it did. -/
def setsSinglesUptoRow : OpenClaim := { program := "ytjgboecifonjdab", sum := "bda6805650cac5dfc3ee22685ba3a76093cd47061ca1d0fcf29c88cbbe79d070", func := "toolchest/toolchestlaw04.SetsSingles", spec := "setsSingles", inPlace := ["internal/abi.NoEscape"], unfollowed := true, recurses := true, apart := false, narrowed := true }
def SetsSinglesUptoSaid : Prop := setsSinglesUptoRow.holds Try.pinned (OpenSpec.upto setsSinglesSpec)

/-- 'toolchestlaw04.SetsClasses', WHERE WHAT IT READS IS OF BULK AT MOST 1048576: true; the input reads as it did. -/
def setsClassesUptoRow : OpenClaim := { program := "ytjgboecifonjdab", sum := "bda6805650cac5dfc3ee22685ba3a76093cd47061ca1d0fcf29c88cbbe79d070", func := "toolchest/toolchestlaw04.SetsClasses", spec := "setsClasses", inPlace := ["internal/abi.NoEscape"], unfollowed := true, recurses := true, apart := false, narrowed := true }
def SetsClassesUptoSaid : Prop := setsClassesUptoRow.holds Try.pinned (OpenSpec.upto setsClassesSpec)

end Rows
end Go.Proofs.Ytjgboecifonjdab
