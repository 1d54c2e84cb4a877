/-
  No cell of these rows narrows 'for every input' (looked for: loops, veiled, ifaces, maps, wideKeys, modest, calm, conditions, laid).
  DERIVED. THE GIVEN ROWS OF THIS SEAT. 6 by the template 'for every input the law returns true; each argument reads behind the call as it read before'; 0 by the template 'total and deterministic' (their statements: YtebnmjelelkcmaaTotals.lean).
  GIVEN WITH THE SEED: the statements are not yours to turn. If you find one false, say at which input.
  Laid BY PROGRAM, IN A SANDBOX (cutbox-rows.mjs): the forced cells as the released guide's own fill.sh prints them over the translation e1b0f0fb991034e6… (all of the seat's roots in one cut). By AI agents, Wed Nov 11 2026. No macro, syntax, notation, axiom, sorry.
-/
import Derived.Test.YtebnmjelelkcmaaChecked
import GoSem.Claim
import GoSem.ClaimJoined
import GoSem.ClaimMapViews
import Derived.JoinedTies
import Derived.KernelRfl
namespace Go.Proofs.Ytebnmjelelkcmaa
/- THE CELL 'sum', in the pinned program and in every row, IS THE sha256 OF THE DUMP (.gsa) THAT YtebnmjelelkcmaaProg.lean LOADS. Nothing in Lean hashes anything: it is a label: what it is worth is what the hold of that sum in a sandbox is worth. -/
noncomputable def Try.pinned : Pinned := { name := "ytebnmjelelkcmaa", sum := "e1b0f0fb991034e6bf6b778c7dec5934b916c045e1e105aac602e455e22dd5e5", checked := Try.checked }
namespace Rows
def none {H : Type} : Left H := { results := [], args := [] }

/-- 'toolchestlaw11.BlocksRuns': WHATEVER THE INPUT: true; the input reads as it did. -/
def blocksRunsSpec : ChangeSpec := { name := "blocksRuns", fn := fun _ => fun
  | [d1, d2, d3] => { results := [.lit (.bool true)], args := [d1, d2, d3] }
  | _ => none }
def blocksRunsRow : OpenClaim := { program := "ytebnmjelelkcmaa", sum := "e1b0f0fb991034e6bf6b778c7dec5934b916c045e1e105aac602e455e22dd5e5", func := "toolchest/toolchestlaw11.BlocksRuns", spec := "blocksRuns", inPlace := ["internal/abi.NoEscape"], unfollowed := true, recurses := true, apart := false }
def BlocksRunsSaid : Prop := blocksRunsRow.holds Try.pinned (OpenSpec.ofChange blocksRunsSpec)

/-- ITS FALSE NEIGHBOUR: 'it returns false'. Refute it at one input. -/
def blocksRunsWrong : ChangeSpec := { name := "blocksRuns", fn := fun _ => fun
  | [d1, d2, d3] => { results := [.lit (.bool false)], args := [d1, d2, d3] }
  | _ => none }
def BlocksRunsWrongFalsely : Prop := blocksRunsRow.holds Try.pinned (OpenSpec.ofChange blocksRunsWrong)

/-- 'toolchestlaw11.BlocksSizes': WHATEVER THE INPUT: true; the input reads as it did. -/
def blocksSizesSpec : ChangeSpec := { name := "blocksSizes", fn := fun _ => fun
  | [d] => { results := [.lit (.bool true)], args := [d] }
  | _ => none }
def blocksSizesRow : OpenClaim := { program := "ytebnmjelelkcmaa", sum := "e1b0f0fb991034e6bf6b778c7dec5934b916c045e1e105aac602e455e22dd5e5", func := "toolchest/toolchestlaw11.BlocksSizes", spec := "blocksSizes", apart := false }
def BlocksSizesSaid : Prop := blocksSizesRow.holds Try.pinned (OpenSpec.ofChange blocksSizesSpec)

/-- ITS FALSE NEIGHBOUR: 'it returns false'. Refute it at one input. -/
def blocksSizesWrong : ChangeSpec := { name := "blocksSizes", fn := fun _ => fun
  | [d] => { results := [.lit (.bool false)], args := [d] }
  | _ => none }
def BlocksSizesWrongFalsely : Prop := blocksSizesRow.holds Try.pinned (OpenSpec.ofChange blocksSizesWrong)

/-- 'toolchestlaw11.BlocksPlain': WHATEVER THE INPUT: true; the input reads as it did. -/
def blocksPlainSpec : ChangeSpec := { name := "blocksPlain", fn := fun _ => fun
  | [d1, d2, d3] => { results := [.lit (.bool true)], args := [d1, d2, d3] }
  | _ => none }
def blocksPlainRow : OpenClaim := { program := "ytebnmjelelkcmaa", sum := "e1b0f0fb991034e6bf6b778c7dec5934b916c045e1e105aac602e455e22dd5e5", func := "toolchest/toolchestlaw11.BlocksPlain", spec := "blocksPlain", inPlace := ["internal/abi.NoEscape"], unfollowed := true, recurses := true, apart := false }
def BlocksPlainSaid : Prop := blocksPlainRow.holds Try.pinned (OpenSpec.ofChange blocksPlainSpec)

/-- ITS FALSE NEIGHBOUR: 'it returns false'. Refute it at one input. -/
def blocksPlainWrong : ChangeSpec := { name := "blocksPlain", fn := fun _ => fun
  | [d1, d2, d3] => { results := [.lit (.bool false)], args := [d1, d2, d3] }
  | _ => none }
def BlocksPlainWrongFalsely : Prop := blocksPlainRow.holds Try.pinned (OpenSpec.ofChange blocksPlainWrong)

/-- 'toolchestlaw11.BlocksParts': WHATEVER THE INPUT: true; the input reads as it did. -/
def blocksPartsSpec : ChangeSpec := { name := "blocksParts", fn := fun _ => fun
  | [d1, d2, d3] => { results := [.lit (.bool true)], args := [d1, d2, d3] }
  | _ => none }
def blocksPartsRow : OpenClaim := { program := "ytebnmjelelkcmaa", sum := "e1b0f0fb991034e6bf6b778c7dec5934b916c045e1e105aac602e455e22dd5e5", func := "toolchest/toolchestlaw11.BlocksParts", spec := "blocksParts", inPlace := ["internal/abi.NoEscape"], unfollowed := true, recurses := true, apart := false }
def BlocksPartsSaid : Prop := blocksPartsRow.holds Try.pinned (OpenSpec.ofChange blocksPartsSpec)

/-- ITS FALSE NEIGHBOUR: 'it returns false'. Refute it at one input. -/
def blocksPartsWrong : ChangeSpec := { name := "blocksParts", fn := fun _ => fun
  | [d1, d2, d3] => { results := [.lit (.bool false)], args := [d1, d2, d3] }
  | _ => none }
def BlocksPartsWrongFalsely : Prop := blocksPartsRow.holds Try.pinned (OpenSpec.ofChange blocksPartsWrong)

/-- 'toolchestlaw11.BlocksTwice': WHATEVER THE INPUT: true; the input reads as it did. -/
def blocksTwiceSpec : ChangeSpec := { name := "blocksTwice", fn := fun _ => fun
  | [d1, d2] => { results := [.lit (.bool true)], args := [d1, d2] }
  | _ => none }
def blocksTwiceRow : OpenClaim := { program := "ytebnmjelelkcmaa", sum := "e1b0f0fb991034e6bf6b778c7dec5934b916c045e1e105aac602e455e22dd5e5", func := "toolchest/toolchestlaw11.BlocksTwice", spec := "blocksTwice", inPlace := ["internal/abi.NoEscape"], unfollowed := true, recurses := true, apart := false }
def BlocksTwiceSaid : Prop := blocksTwiceRow.holds Try.pinned (OpenSpec.ofChange blocksTwiceSpec)

/-- ITS FALSE NEIGHBOUR: 'it returns false'. Refute it at one input. -/
def blocksTwiceWrong : ChangeSpec := { name := "blocksTwice", fn := fun _ => fun
  | [d1, d2] => { results := [.lit (.bool false)], args := [d1, d2] }
  | _ => none }
def BlocksTwiceWrongFalsely : Prop := blocksTwiceRow.holds Try.pinned (OpenSpec.ofChange blocksTwiceWrong)

/-- 'toolchestlaw11.BlocksCounts': WHATEVER THE INPUT: true; the input reads as it did. -/
def blocksCountsSpec : ChangeSpec := { name := "blocksCounts", fn := fun _ => fun
  | [d1, d2] => { results := [.lit (.bool true)], args := [d1, d2] }
  | _ => none }
def blocksCountsRow : OpenClaim := { program := "ytebnmjelelkcmaa", sum := "e1b0f0fb991034e6bf6b778c7dec5934b916c045e1e105aac602e455e22dd5e5", func := "toolchest/toolchestlaw11.BlocksCounts", spec := "blocksCounts", inPlace := ["internal/abi.NoEscape"], unfollowed := true, recurses := true, apart := false }
def BlocksCountsSaid : Prop := blocksCountsRow.holds Try.pinned (OpenSpec.ofChange blocksCountsSpec)

/-- ITS FALSE NEIGHBOUR: 'it returns false'. Refute it at one input. -/
def blocksCountsWrong : ChangeSpec := { name := "blocksCounts", fn := fun _ => fun
  | [d1, d2] => { results := [.lit (.bool false)], args := [d1, d2] }
  | _ => none }
def BlocksCountsWrongFalsely : Prop := blocksCountsRow.holds Try.pinned (OpenSpec.ofChange blocksCountsWrong)

/- THE SECOND FORM. 'bulk': how many values and letters a reading holds, each counted each time it is reached (what is shared counts as often as it is met; a slice's spare places count too). A statement '..UptoSaid' is the law's where the arguments, and the package variables that the reading takes, are together of bulk at most 1048576: NARROWER than '..Said'. Prove '..Said' where nothing that the law and all that it calls make is longer than what came in: it says more and counts as full. Else prove '..UptoSaid'. A law counts once. -/
mutual
def uptoBulk {H : Type} : DataW H → Nat
  | .lit (.string bytes) => bytes.length + 1
  | .lit _ => 1
  | .nil => 1
  | .ptr d => uptoBulk d + 1
  | .slice elems spare => uptoBulkAll elems + uptoBulkAll spare + 1
  | .agg parts => uptoBulkAll parts + 1
  | .iface _ d => uptoBulk d + 1
  | .map entries => uptoBulkEntries entries + 1
  | .held _ => 1
def uptoBulkAll {H : Type} : List (DataW H) → Nat
  | [] => 0
  | d :: r => uptoBulk d + uptoBulkAll r
def uptoBulkEntries {H : Type} : List (Lit × DataW H) → Nat
  | [] => 0
  | x :: r => uptoBulkEntry x + uptoBulkEntries r
def uptoBulkEntry {H : Type} : Lit × DataW H → Nat
  | (.string bytes, d) => bytes.length + uptoBulk d + 1
  | (_, d) => uptoBulk d + 1
 end
def uptoSmall : (H : Type) → List (DataW H) → Bool := fun _ ds => decide (uptoBulkAll ds ≤ 1048576)
def OpenSpec.upto (s : _root_.Go.ChangeSpec) : _root_.Go.OpenSpec := { _root_.Go.OpenSpec.ofChange s with cond := some uptoSmall }

/-- 'toolchestlaw11.BlocksRuns', WHERE WHAT IT READS IS OF BULK AT MOST 1048576: true; the input reads as it did. -/
def blocksRunsUptoRow : OpenClaim := { program := "ytebnmjelelkcmaa", sum := "e1b0f0fb991034e6bf6b778c7dec5934b916c045e1e105aac602e455e22dd5e5", func := "toolchest/toolchestlaw11.BlocksRuns", spec := "blocksRuns", inPlace := ["internal/abi.NoEscape"], unfollowed := true, recurses := true, apart := false, narrowed := true }
def BlocksRunsUptoSaid : Prop := blocksRunsUptoRow.holds Try.pinned (OpenSpec.upto blocksRunsSpec)

/-- 'toolchestlaw11.BlocksSizes', WHERE WHAT IT READS IS OF BULK AT MOST 1048576: true; the input reads as it did. -/
def blocksSizesUptoRow : OpenClaim := { program := "ytebnmjelelkcmaa", sum := "e1b0f0fb991034e6bf6b778c7dec5934b916c045e1e105aac602e455e22dd5e5", func := "toolchest/toolchestlaw11.BlocksSizes", spec := "blocksSizes", apart := false, narrowed := true }
def BlocksSizesUptoSaid : Prop := blocksSizesUptoRow.holds Try.pinned (OpenSpec.upto blocksSizesSpec)

/-- 'toolchestlaw11.BlocksPlain', WHERE WHAT IT READS IS OF BULK AT MOST 1048576: true; the input reads as it did. -/
def blocksPlainUptoRow : OpenClaim := { program := "ytebnmjelelkcmaa", sum := "e1b0f0fb991034e6bf6b778c7dec5934b916c045e1e105aac602e455e22dd5e5", func := "toolchest/toolchestlaw11.BlocksPlain", spec := "blocksPlain", inPlace := ["internal/abi.NoEscape"], unfollowed := true, recurses := true, apart := false, narrowed := true }
def BlocksPlainUptoSaid : Prop := blocksPlainUptoRow.holds Try.pinned (OpenSpec.upto blocksPlainSpec)

/-- 'toolchestlaw11.BlocksParts', WHERE WHAT IT READS IS OF BULK AT MOST 1048576: true; the input reads as it did. -/
def blocksPartsUptoRow : OpenClaim := { program := "ytebnmjelelkcmaa", sum := "e1b0f0fb991034e6bf6b778c7dec5934b916c045e1e105aac602e455e22dd5e5", func := "toolchest/toolchestlaw11.BlocksParts", spec := "blocksParts", inPlace := ["internal/abi.NoEscape"], unfollowed := true, recurses := true, apart := false, narrowed := true }
def BlocksPartsUptoSaid : Prop := blocksPartsUptoRow.holds Try.pinned (OpenSpec.upto blocksPartsSpec)

/-- 'toolchestlaw11.BlocksTwice', WHERE WHAT IT READS IS OF BULK AT MOST 1048576: true; the input reads as it did. -/
def blocksTwiceUptoRow : OpenClaim := { program := "ytebnmjelelkcmaa", sum := "e1b0f0fb991034e6bf6b778c7dec5934b916c045e1e105aac602e455e22dd5e5", func := "toolchest/toolchestlaw11.BlocksTwice", spec := "blocksTwice", inPlace := ["internal/abi.NoEscape"], unfollowed := true, recurses := true, apart := false, narrowed := true }
def BlocksTwiceUptoSaid : Prop := blocksTwiceUptoRow.holds Try.pinned (OpenSpec.upto blocksTwiceSpec)

/-- 'toolchestlaw11.BlocksCounts', WHERE WHAT IT READS IS OF BULK AT MOST 1048576: true; the input reads as it did. -/
def blocksCountsUptoRow : OpenClaim := { program := "ytebnmjelelkcmaa", sum := "e1b0f0fb991034e6bf6b778c7dec5934b916c045e1e105aac602e455e22dd5e5", func := "toolchest/toolchestlaw11.BlocksCounts", spec := "blocksCounts", inPlace := ["internal/abi.NoEscape"], unfollowed := true, recurses := true, apart := false, narrowed := true }
def BlocksCountsUptoSaid : Prop := blocksCountsUptoRow.holds Try.pinned (OpenSpec.upto blocksCountsSpec)

end Rows
end Go.Proofs.Ytebnmjelelkcmaa
