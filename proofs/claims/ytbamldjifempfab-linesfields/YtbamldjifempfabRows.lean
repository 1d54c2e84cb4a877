/-
  No cell of these rows narrows 'for every input' (looked for: loops, veiled, ifaces, maps, wideKeys, modest, calm, conditions, laid).
  DERIVED. THE GIVEN ROWS OF THIS SEAT. 4 by the template 'for every input the law returns true; each argument reads behind the call as it read before'; 0 by the template 'total and deterministic' (their statements: YtbamldjifempfabTotals.lean).
  GIVEN WITH THE SEED: the statements are not yours to turn. If you find one false, say at which input.
  Laid BY PROGRAM, IN A SANDBOX (cutbox-rows.mjs): the forced cells as the released guide's own fill.sh prints them over the translation 73baaa7170ed462f… (all of the seat's roots in one cut). By AI agents, Wed Nov 11 2026. No macro, syntax, notation, axiom, sorry.
-/
import Derived.Test.YtbamldjifempfabChecked
import GoSem.Claim
import GoSem.ClaimJoined
import GoSem.ClaimMapViews
import Derived.JoinedTies
import Derived.KernelRfl
namespace Go.Proofs.Ytbamldjifempfab
/- THE CELL 'sum', in the pinned program and in every row, IS THE sha256 OF THE DUMP (.gsa) THAT YtbamldjifempfabProg.lean LOADS. Nothing in Lean hashes anything: it is a label: what it is worth is what the hold of that sum in a sandbox is worth. -/
noncomputable def Try.pinned : Pinned := { name := "ytbamldjifempfab", sum := "73baaa7170ed462f96f34c2002063fd50dc2e8890b94e0d751e153f7b7bb8848", checked := Try.checked }
namespace Rows
def none {H : Type} : Left H := { results := [], args := [] }

/-- 'toolchestlaw02.LinesHalves': WHATEVER THE INPUT: true; the input reads as it did. -/
def linesHalvesSpec : ChangeSpec := { name := "linesHalves", fn := fun _ => fun
  | [d1, d2] => { results := [.lit (.bool true)], args := [d1, d2] }
  | _ => none }
def linesHalvesRow : OpenClaim := { program := "ytbamldjifempfab", sum := "73baaa7170ed462f96f34c2002063fd50dc2e8890b94e0d751e153f7b7bb8848", func := "toolchest/toolchestlaw02.LinesHalves", spec := "linesHalves", unfollowed := true, recurses := true, apart := false }
def LinesHalvesSaid : Prop := linesHalvesRow.holds Try.pinned (OpenSpec.ofChange linesHalvesSpec)

/-- ITS FALSE NEIGHBOUR: 'it returns false'. Refute it at one input. -/
def linesHalvesWrong : ChangeSpec := { name := "linesHalves", fn := fun _ => fun
  | [d1, d2] => { results := [.lit (.bool false)], args := [d1, d2] }
  | _ => none }
def LinesHalvesWrongFalsely : Prop := linesHalvesRow.holds Try.pinned (OpenSpec.ofChange linesHalvesWrong)

/-- 'toolchestlaw02.LinesFields': WHATEVER THE INPUT: true; the input reads as it did. -/
def linesFieldsSpec : ChangeSpec := { name := "linesFields", fn := fun _ => fun
  | [d1, d2] => { results := [.lit (.bool true)], args := [d1, d2] }
  | _ => none }
def linesFieldsRow : OpenClaim := { program := "ytbamldjifempfab", sum := "73baaa7170ed462f96f34c2002063fd50dc2e8890b94e0d751e153f7b7bb8848", func := "toolchest/toolchestlaw02.LinesFields", spec := "linesFields", unfollowed := true, recurses := true, apart := false }
def LinesFieldsSaid : Prop := linesFieldsRow.holds Try.pinned (OpenSpec.ofChange linesFieldsSpec)

/-- ITS FALSE NEIGHBOUR: 'it returns false'. Refute it at one input. -/
def linesFieldsWrong : ChangeSpec := { name := "linesFields", fn := fun _ => fun
  | [d1, d2] => { results := [.lit (.bool false)], args := [d1, d2] }
  | _ => none }
def LinesFieldsWrongFalsely : Prop := linesFieldsRow.holds Try.pinned (OpenSpec.ofChange linesFieldsWrong)

/-- 'toolchestlaw02.LinesAdds': WHATEVER THE INPUT: true; the input reads as it did. -/
def linesAddsSpec : ChangeSpec := { name := "linesAdds", fn := fun _ => fun
  | [d1, d2] => { results := [.lit (.bool true)], args := [d1, d2] }
  | _ => none }
def linesAddsRow : OpenClaim := { program := "ytbamldjifempfab", sum := "73baaa7170ed462f96f34c2002063fd50dc2e8890b94e0d751e153f7b7bb8848", func := "toolchest/toolchestlaw02.LinesAdds", spec := "linesAdds", unfollowed := true, recurses := true, apart := false }
def LinesAddsSaid : Prop := linesAddsRow.holds Try.pinned (OpenSpec.ofChange linesAddsSpec)

/-- ITS FALSE NEIGHBOUR: 'it returns false'. Refute it at one input. -/
def linesAddsWrong : ChangeSpec := { name := "linesAdds", fn := fun _ => fun
  | [d1, d2] => { results := [.lit (.bool false)], args := [d1, d2] }
  | _ => none }
def LinesAddsWrongFalsely : Prop := linesAddsRow.holds Try.pinned (OpenSpec.ofChange linesAddsWrong)

/-- 'toolchestlaw02.LinesWords': WHATEVER THE INPUT: true; the input reads as it did. -/
def linesWordsSpec : ChangeSpec := { name := "linesWords", fn := fun _ => fun
  | [d] => { results := [.lit (.bool true)], args := [d] }
  | _ => none }
def linesWordsRow : OpenClaim := { program := "ytbamldjifempfab", sum := "73baaa7170ed462f96f34c2002063fd50dc2e8890b94e0d751e153f7b7bb8848", func := "toolchest/toolchestlaw02.LinesWords", spec := "linesWords", unfollowed := true, recurses := true, apart := false }
def LinesWordsSaid : Prop := linesWordsRow.holds Try.pinned (OpenSpec.ofChange linesWordsSpec)

/-- ITS FALSE NEIGHBOUR: 'it returns false'. Refute it at one input. -/
def linesWordsWrong : ChangeSpec := { name := "linesWords", fn := fun _ => fun
  | [d] => { results := [.lit (.bool false)], args := [d] }
  | _ => none }
def LinesWordsWrongFalsely : Prop := linesWordsRow.holds Try.pinned (OpenSpec.ofChange linesWordsWrong)

/- THE SECOND FORM. 'bulk': how many values and letters a reading holds, each counted each time it is reached (what is shared counts as often as it is met; a slice's spare places count too). A statement '..UptoSaid' is the law's where the arguments, and the package variables that the reading takes, are together of bulk at most 1048576: NARROWER than '..Said'. Prove '..Said' where nothing that the law and all that it calls make is longer than what came in: it says more and counts as full. Else prove '..UptoSaid'. A law counts once. -/
mutual
def uptoBulk {H : Type} : DataW H → Nat
  | .lit (.string bytes) => bytes.length + 1
  | .lit _ => 1
  | .nil => 1
  | .ptr d => uptoBulk d + 1
  | .slice elems spare => uptoBulkAll elems + uptoBulkAll spare + 1
  | .agg parts => uptoBulkAll parts + 1
  | .iface _ d => uptoBulk d + 1
  | .map entries => uptoBulkEntries entries + 1
  | .held _ => 1
def uptoBulkAll {H : Type} : List (DataW H) → Nat
  | [] => 0
  | d :: r => uptoBulk d + uptoBulkAll r
def uptoBulkEntries {H : Type} : List (Lit × DataW H) → Nat
  | [] => 0
  | x :: r => uptoBulkEntry x + uptoBulkEntries r
def uptoBulkEntry {H : Type} : Lit × DataW H → Nat
  | (.string bytes, d) => bytes.length + uptoBulk d + 1
  | (_, d) => uptoBulk d + 1
 end
def uptoSmall : (H : Type) → List (DataW H) → Bool := fun _ ds => decide (uptoBulkAll ds ≤ 1048576)
def OpenSpec.upto (s : _root_.Go.ChangeSpec) : _root_.Go.OpenSpec := { _root_.Go.OpenSpec.ofChange s with cond := some uptoSmall }

/-- 'toolchestlaw02.LinesHalves', WHERE WHAT IT READS IS OF BULK AT MOST 1048576: true; the input reads as it did. -/
def linesHalvesUptoRow : OpenClaim := { program := "ytbamldjifempfab", sum := "73baaa7170ed462f96f34c2002063fd50dc2e8890b94e0d751e153f7b7bb8848", func := "toolchest/toolchestlaw02.LinesHalves", spec := "linesHalves", unfollowed := true, recurses := true, apart := false, narrowed := true }
def LinesHalvesUptoSaid : Prop := linesHalvesUptoRow.holds Try.pinned (OpenSpec.upto linesHalvesSpec)

/-- 'toolchestlaw02.LinesFields', WHERE WHAT IT READS IS OF BULK AT MOST 1048576: true; the input reads as it did. -/
def linesFieldsUptoRow : OpenClaim := { program := "ytbamldjifempfab", sum := "73baaa7170ed462f96f34c2002063fd50dc2e8890b94e0d751e153f7b7bb8848", func := "toolchest/toolchestlaw02.LinesFields", spec := "linesFields", unfollowed := true, recurses := true, apart := false, narrowed := true }
def LinesFieldsUptoSaid : Prop := linesFieldsUptoRow.holds Try.pinned (OpenSpec.upto linesFieldsSpec)

/-- 'toolchestlaw02.LinesAdds', WHERE WHAT IT READS IS OF BULK AT MOST 1048576: true; the input reads as it did. -/
def linesAddsUptoRow : OpenClaim := { program := "ytbamldjifempfab", sum := "73baaa7170ed462f96f34c2002063fd50dc2e8890b94e0d751e153f7b7bb8848", func := "toolchest/toolchestlaw02.LinesAdds", spec := "linesAdds", unfollowed := true, recurses := true, apart := false, narrowed := true }
def LinesAddsUptoSaid : Prop := linesAddsUptoRow.holds Try.pinned (OpenSpec.upto linesAddsSpec)

/-- 'toolchestlaw02.LinesWords', WHERE WHAT IT READS IS OF BULK AT MOST 1048576: true; the input reads as it did. -/
def linesWordsUptoRow : OpenClaim := { program := "ytbamldjifempfab", sum := "73baaa7170ed462f96f34c2002063fd50dc2e8890b94e0d751e153f7b7bb8848", func := "toolchest/toolchestlaw02.LinesWords", spec := "linesWords", unfollowed := true, recurses := true, apart := false, narrowed := true }
def LinesWordsUptoSaid : Prop := linesWordsUptoRow.holds Try.pinned (OpenSpec.upto linesWordsSpec)

end Rows
end Go.Proofs.Ytbamldjifempfab
