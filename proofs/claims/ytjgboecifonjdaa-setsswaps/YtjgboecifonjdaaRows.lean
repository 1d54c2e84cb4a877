/-
  No cell of these rows narrows 'for every input' (looked for: loops, veiled, ifaces, maps, wideKeys, modest, calm, conditions, laid).
  DERIVED. THE GIVEN ROWS OF THIS SEAT. 4 by the template 'for every input the law returns true; each argument reads behind the call as it read before'; 0 by the template 'total and deterministic' (their statements: YtjgboecifonjdaaTotals.lean).
  GIVEN WITH THE SEED: the statements are not yours to turn. If you find one false, say at which input.
  Laid BY PROGRAM, IN A SANDBOX (cutbox-rows.mjs): the forced cells as the released guide's own fill.sh prints them over the translation fcf05300a6fa714e… (all of the seat's roots in one cut). By AI agents, Wed Nov 11 2026. No macro, syntax, notation, axiom, sorry.
-/
import Derived.Test.YtjgboecifonjdaaChecked
import GoSem.Claim
import GoSem.ClaimJoined
import GoSem.ClaimMapViews
import Derived.JoinedTies
import Derived.KernelRfl
namespace Go.Proofs.Ytjgboecifonjdaa
/- THE CELL 'sum', in the pinned program and in every row, IS THE sha256 OF THE DUMP (.gsa) THAT YtjgboecifonjdaaProg.lean LOADS. Nothing in Lean hashes anything: it is a label: what it is worth is what the hold of that sum in a sandbox is worth. -/
noncomputable def Try.pinned : Pinned := { name := "ytjgboecifonjdaa", sum := "fcf05300a6fa714e438ebe5d167db99458cdbe015b75bd8924e309a7105b4184", checked := Try.checked }
namespace Rows
def none {H : Type} : Left H := { results := [], args := [] }

/-- 'toolchestlaw04.SetsSwaps': WHATEVER THE INPUT: true; the input reads as it did. -/
def setsSwapsSpec : ChangeSpec := { name := "setsSwaps", fn := fun _ => fun
  | [d1, d2, d3] => { results := [.lit (.bool true)], args := [d1, d2, d3] }
  | _ => none }
def setsSwapsRow : OpenClaim := { program := "ytjgboecifonjdaa", sum := "fcf05300a6fa714e438ebe5d167db99458cdbe015b75bd8924e309a7105b4184", func := "toolchest/toolchestlaw04.SetsSwaps", spec := "setsSwaps", apart := false }
def SetsSwapsSaid : Prop := setsSwapsRow.holds Try.pinned (OpenSpec.ofChange setsSwapsSpec)

/-- ITS FALSE NEIGHBOUR: 'it returns false'. Refute it at one input. -/
def setsSwapsWrong : ChangeSpec := { name := "setsSwaps", fn := fun _ => fun
  | [d1, d2, d3] => { results := [.lit (.bool false)], args := [d1, d2, d3] }
  | _ => none }
def SetsSwapsWrongFalsely : Prop := setsSwapsRow.holds Try.pinned (OpenSpec.ofChange setsSwapsWrong)

/-- 'toolchestlaw04.SetsRest': WHATEVER THE INPUT: true; the input reads as it did. -/
def setsRestSpec : ChangeSpec := { name := "setsRest", fn := fun _ => fun
  | [d1, d2] => { results := [.lit (.bool true)], args := [d1, d2] }
  | _ => none }
def setsRestRow : OpenClaim := { program := "ytjgboecifonjdaa", sum := "fcf05300a6fa714e438ebe5d167db99458cdbe015b75bd8924e309a7105b4184", func := "toolchest/toolchestlaw04.SetsRest", spec := "setsRest", inPlace := ["internal/abi.NoEscape"], unfollowed := true, recurses := true, apart := false }
def SetsRestSaid : Prop := setsRestRow.holds Try.pinned (OpenSpec.ofChange setsRestSpec)

/-- ITS FALSE NEIGHBOUR: 'it returns false'. Refute it at one input. -/
def setsRestWrong : ChangeSpec := { name := "setsRest", fn := fun _ => fun
  | [d1, d2] => { results := [.lit (.bool false)], args := [d1, d2] }
  | _ => none }
def SetsRestWrongFalsely : Prop := setsRestRow.holds Try.pinned (OpenSpec.ofChange setsRestWrong)

/-- 'toolchestlaw04.SetsSwapped': WHATEVER THE INPUT: true; the input reads as it did. -/
def setsSwappedSpec : ChangeSpec := { name := "setsSwapped", fn := fun _ => fun
  | [d1, d2, d3] => { results := [.lit (.bool true)], args := [d1, d2, d3] }
  | _ => none }
def setsSwappedRow : OpenClaim := { program := "ytjgboecifonjdaa", sum := "fcf05300a6fa714e438ebe5d167db99458cdbe015b75bd8924e309a7105b4184", func := "toolchest/toolchestlaw04.SetsSwapped", spec := "setsSwapped", inPlace := ["internal/abi.NoEscape"], unfollowed := true, recurses := true, apart := false }
def SetsSwappedSaid : Prop := setsSwappedRow.holds Try.pinned (OpenSpec.ofChange setsSwappedSpec)

/-- ITS FALSE NEIGHBOUR: 'it returns false'. Refute it at one input. -/
def setsSwappedWrong : ChangeSpec := { name := "setsSwapped", fn := fun _ => fun
  | [d1, d2, d3] => { results := [.lit (.bool false)], args := [d1, d2, d3] }
  | _ => none }
def SetsSwappedWrongFalsely : Prop := setsSwappedRow.holds Try.pinned (OpenSpec.ofChange setsSwappedWrong)

/-- 'toolchestlaw04.SetsBack': WHATEVER THE INPUT: true; the input reads as it did. -/
def setsBackSpec : ChangeSpec := { name := "setsBack", fn := fun _ => fun
  | [d1, d2, d3] => { results := [.lit (.bool true)], args := [d1, d2, d3] }
  | _ => none }
def setsBackRow : OpenClaim := { program := "ytjgboecifonjdaa", sum := "fcf05300a6fa714e438ebe5d167db99458cdbe015b75bd8924e309a7105b4184", func := "toolchest/toolchestlaw04.SetsBack", spec := "setsBack", inPlace := ["internal/abi.NoEscape"], unfollowed := true, recurses := true, apart := false }
def SetsBackSaid : Prop := setsBackRow.holds Try.pinned (OpenSpec.ofChange setsBackSpec)

/-- ITS FALSE NEIGHBOUR: 'it returns false'. Refute it at one input. -/
def setsBackWrong : ChangeSpec := { name := "setsBack", fn := fun _ => fun
  | [d1, d2, d3] => { results := [.lit (.bool false)], args := [d1, d2, d3] }
  | _ => none }
def SetsBackWrongFalsely : Prop := setsBackRow.holds Try.pinned (OpenSpec.ofChange setsBackWrong)

/- THE SECOND FORM. 'bulk': how many values and letters a reading holds, each counted each time it is reached (what is shared counts as often as it is met; a slice's spare places count too). A statement '..UptoSaid' is the law's where the arguments, and the package variables that the reading takes, are together of bulk at most 1048576: NARROWER than '..Said'. Prove '..Said' where nothing that the law and all that it calls make is longer than what came in: it says more and counts as full. Else prove '..UptoSaid'. A law counts once. -/
mutual
def uptoBulk {H : Type} : DataW H → Nat
  | .lit (.string bytes) => bytes.length + 1
  | .lit _ => 1
  | .nil => 1
  | .ptr d => uptoBulk d + 1
  | .slice elems spare => uptoBulkAll elems + uptoBulkAll spare + 1
  | .agg parts => uptoBulkAll parts + 1
  | .iface _ d => uptoBulk d + 1
  | .map entries => uptoBulkEntries entries + 1
  | .held _ => 1
def uptoBulkAll {H : Type} : List (DataW H) → Nat
  | [] => 0
  | d :: r => uptoBulk d + uptoBulkAll r
def uptoBulkEntries {H : Type} : List (Lit × DataW H) → Nat
  | [] => 0
  | x :: r => uptoBulkEntry x + uptoBulkEntries r
def uptoBulkEntry {H : Type} : Lit × DataW H → Nat
  | (.string bytes, d) => bytes.length + uptoBulk d + 1
  | (_, d) => uptoBulk d + 1
 end
def uptoSmall : (H : Type) → List (DataW H) → Bool := fun _ ds => decide (uptoBulkAll ds ≤ 1048576)
def OpenSpec.upto (s : _root_.Go.ChangeSpec) : _root_.Go.OpenSpec := { _root_.Go.OpenSpec.ofChange s with cond := some uptoSmall }

/-- 'toolchestlaw04.SetsSwaps', WHERE WHAT IT READS IS OF BULK AT MOST 1048576: true; the input reads as it did. -/
def setsSwapsUptoRow : OpenClaim := { program := "ytjgboecifonjdaa", sum := "fcf05300a6fa714e438ebe5d167db99458cdbe015b75bd8924e309a7105b4184", func := "toolchest/toolchestlaw04.SetsSwaps", spec := "setsSwaps", apart := false, narrowed := true }
def SetsSwapsUptoSaid : Prop := setsSwapsUptoRow.holds Try.pinned (OpenSpec.upto setsSwapsSpec)

/-- 'toolchestlaw04.SetsRest', WHERE WHAT IT READS IS OF BULK AT MOST 1048576: true; the input reads as it did. -/
def setsRestUptoRow : OpenClaim := { program := "ytjgboecifonjdaa", sum := "fcf05300a6fa714e438ebe5d167db99458cdbe015b75bd8924e309a7105b4184", func := "toolchest/toolchestlaw04.SetsRest", spec := "setsRest", inPlace := ["internal/abi.NoEscape"], unfollowed := true, recurses := true, apart := false, narrowed := true }
def SetsRestUptoSaid : Prop := setsRestUptoRow.holds Try.pinned (OpenSpec.upto setsRestSpec)

/-- 'toolchestlaw04.SetsSwapped', WHERE WHAT IT READS IS OF BULK AT MOST 1048576: true; the input reads as it did. -/
def setsSwappedUptoRow : OpenClaim := { program := "ytjgboecifonjdaa", sum := "fcf05300a6fa714e438ebe5d167db99458cdbe015b75bd8924e309a7105b4184", func := "toolchest/toolchestlaw04.SetsSwapped", spec := "setsSwapped", inPlace := ["internal/abi.NoEscape"], unfollowed := true, recurses := true, apart := false, narrowed := true }
def SetsSwappedUptoSaid : Prop := setsSwappedUptoRow.holds Try.pinned (OpenSpec.upto setsSwappedSpec)

/-- 'toolchestlaw04.SetsBack', WHERE WHAT IT READS IS OF BULK AT MOST 1048576: true; the input reads as it did. -/
def setsBackUptoRow : OpenClaim := { program := "ytjgboecifonjdaa", sum := "fcf05300a6fa714e438ebe5d167db99458cdbe015b75bd8924e309a7105b4184", func := "toolchest/toolchestlaw04.SetsBack", spec := "setsBack", inPlace := ["internal/abi.NoEscape"], unfollowed := true, recurses := true, apart := false, narrowed := true }
def SetsBackUptoSaid : Prop := setsBackUptoRow.holds Try.pinned (OpenSpec.upto setsBackSpec)

end Rows
end Go.Proofs.Ytjgboecifonjdaa
