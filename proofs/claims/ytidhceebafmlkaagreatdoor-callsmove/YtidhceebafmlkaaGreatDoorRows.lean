/-
  NARROWER THAN 'FOR EVERY INPUT', by the rows' own cells (each row's printed sentence says how): CallsDo: laid · CallsLook: laid · CallsWords: laid · CallsKeep: laid · CallsGuard: laid · CallsMove: laid.
  DERIVED. THE GIVEN ROWS OF THIS SEAT. 6 by the template 'for every input the law returns true; each argument reads behind the call as it read before'; 0 by the template 'total and deterministic' (their statements: YtidhceebafmlkaaGreatDoorTotals.lean).
  GIVEN WITH THE SEED: the statements are not yours to turn. If you find one false, say at which input.
  Laid BY PROGRAM, IN A SANDBOX (cutbox-rows.mjs): the forced cells as the released guide's own fill.sh prints them over the translation 34accc56ac9820db… (all of the seat's roots in one cut). By AI agents, Wed Nov 11 2026. No macro, syntax, notation, axiom, sorry.
-/
import Derived.Test.YtidhceebafmlkaaGreatDoorChecked
import GoSem.Claim
import GoSem.ClaimJoined
import GoSem.ClaimMapViews
import Derived.JoinedTies
import Derived.KernelRfl
namespace Go.Proofs.YtidhceebafmlkaaGreatDoor
/- THE CELL 'sum', in the pinned program and in every row, IS THE sha256 OF THE DUMP (.gsa) THAT YtidhceebafmlkaaGreatDoorProg.lean LOADS. Nothing in Lean hashes anything: it is a label: what it is worth is what the hold of that sum in a sandbox is worth. -/
noncomputable def Tryz.pinned : Pinned := { name := "ytidhceebafmlkaagreatdoor", sum := "34accc56ac9820db835f580812bbc8faebdde6de1a0fa61d06edaf815fa33be4", checked := Tryz.checked }
namespace Rows
def none {H : Type} : Left H := { results := [], args := [] }

/- WHAT THE LISTED PACKAGE-LEVEL VARIABLES READ AS WHEN THE CALL BEGINS. Each datum BY PROGRAM (the guide's laid-datum.mjs) off the statement by which the dump's own 'gosem.cut.vars' lays the variable. In a bare row this is a premise. The card (YtidhceebafmlkaaGreatDoorCards.lean) ties it to the program's text. -/
def laid_math_bits_deBruijn32tab {H : Type} : DataW H := .agg [.lit (.int .u8 0), .lit (.int .u8 1), .lit (.int .u8 28), .lit (.int .u8 2), .lit (.int .u8 29), .lit (.int .u8 14), .lit (.int .u8 24), .lit (.int .u8 3), .lit (.int .u8 30), .lit (.int .u8 22), .lit (.int .u8 20), .lit (.int .u8 15), .lit (.int .u8 25), .lit (.int .u8 17), .lit (.int .u8 4), .lit (.int .u8 8), .lit (.int .u8 31), .lit (.int .u8 27), .lit (.int .u8 13), .lit (.int .u8 23), .lit (.int .u8 21), .lit (.int .u8 19), .lit (.int .u8 16), .lit (.int .u8 7), .lit (.int .u8 26), .lit (.int .u8 12), .lit (.int .u8 18), .lit (.int .u8 6), .lit (.int .u8 11), .lit (.int .u8 5), .lit (.int .u8 10), .lit (.int .u8 9)]
def laid_math_bits_deBruijn64tab {H : Type} : DataW H := .agg [.lit (.int .u8 0), .lit (.int .u8 1), .lit (.int .u8 56), .lit (.int .u8 2), .lit (.int .u8 57), .lit (.int .u8 49), .lit (.int .u8 28), .lit (.int .u8 3), .lit (.int .u8 61), .lit (.int .u8 58), .lit (.int .u8 42), .lit (.int .u8 50), .lit (.int .u8 38), .lit (.int .u8 29), .lit (.int .u8 17), .lit (.int .u8 4), .lit (.int .u8 62), .lit (.int .u8 47), .lit (.int .u8 59), .lit (.int .u8 36), .lit (.int .u8 45), .lit (.int .u8 43), .lit (.int .u8 51), .lit (.int .u8 22), .lit (.int .u8 53), .lit (.int .u8 39), .lit (.int .u8 33), .lit (.int .u8 30), .lit (.int .u8 24), .lit (.int .u8 18), .lit (.int .u8 12), .lit (.int .u8 5), .lit (.int .u8 63), .lit (.int .u8 55), .lit (.int .u8 48), .lit (.int .u8 27), .lit (.int .u8 60), .lit (.int .u8 41), .lit (.int .u8 37), .lit (.int .u8 16), .lit (.int .u8 46), .lit (.int .u8 35), .lit (.int .u8 44), .lit (.int .u8 21), .lit (.int .u8 52), .lit (.int .u8 32), .lit (.int .u8 23), .lit (.int .u8 11), .lit (.int .u8 54), .lit (.int .u8 26), .lit (.int .u8 40), .lit (.int .u8 15), .lit (.int .u8 34), .lit (.int .u8 20), .lit (.int .u8 31), .lit (.int .u8 10), .lit (.int .u8 25), .lit (.int .u8 14), .lit (.int .u8 19), .lit (.int .u8 9), .lit (.int .u8 13), .lit (.int .u8 8), .lit (.int .u8 7), .lit (.int .u8 6)]
def laid_internal_strconv_uint64pow10 {H : Type} : DataW H := .agg [.lit (.int .u64 1), .lit (.int .u64 10), .lit (.int .u64 100), .lit (.int .u64 1000), .lit (.int .u64 10000), .lit (.int .u64 100000), .lit (.int .u64 1000000), .lit (.int .u64 10000000), .lit (.int .u64 100000000), .lit (.int .u64 1000000000), .lit (.int .u64 10000000000), .lit (.int .u64 100000000000), .lit (.int .u64 1000000000000), .lit (.int .u64 10000000000000), .lit (.int .u64 100000000000000), .lit (.int .u64 1000000000000000), .lit (.int .u64 10000000000000000), .lit (.int .u64 100000000000000000), .lit (.int .u64 1000000000000000000), .lit (.int .u64 10000000000000000000)]
def laid_toolchest_calls_rows {H : Type} : DataW H := .agg [.agg [.lit (.int .i64 0), .lit (.bool false), .lit (.bool false)], .agg [.lit (.int .i64 37), .lit (.bool true), .lit (.bool true)], .agg [.lit (.int .i64 37), .lit (.bool true), .lit (.bool true)], .agg [.lit (.int .i64 5), .lit (.bool true), .lit (.bool false)], .agg [.lit (.int .i64 1), .lit (.bool true), .lit (.bool false)], .agg [.lit (.int .i64 1), .lit (.bool true), .lit (.bool false)], .agg [.lit (.int .i64 3), .lit (.bool true), .lit (.bool false)], .agg [.lit (.int .i64 3), .lit (.bool false), .lit (.bool false)], .agg [.lit (.int .i64 3), .lit (.bool true), .lit (.bool false)], .agg [.lit (.int .i64 5), .lit (.bool true), .lit (.bool true)], .agg [.lit (.int .i64 9), .lit (.bool true), .lit (.bool true)], .agg [.lit (.int .i64 17), .lit (.bool true), .lit (.bool true)], .agg [.lit (.int .i64 16), .lit (.bool false), .lit (.bool false)]]
def laid_toolchest_calls_words {H : Type} : DataW H := .agg [.lit (.string []), .lit (.string [105, 110, 118, 97, 108, 105, 100, 32, 97, 114, 103, 117, 109, 101, 110, 116]), .lit (.string []), .lit (.string [116, 111, 111, 32, 100, 101, 101, 112]), .lit (.string []), .lit (.string []), .lit (.string [110, 111, 32, 115, 117, 99, 104, 32, 102, 105, 108, 101, 32, 111, 114, 32, 100, 105, 114, 101, 99, 116, 111, 114, 121]), .lit (.string [102, 105, 108, 101, 32, 101, 120, 105, 115, 116, 115]), .lit (.string [105, 115, 32, 97, 32, 100, 105, 114, 101, 99, 116, 111, 114, 121]), .lit (.string [110, 111, 116, 32, 97, 32, 100, 105, 114, 101, 99, 116, 111, 114, 121]), .lit (.string [112, 101, 114, 109, 105, 115, 115, 105, 111, 110, 32, 100, 101, 110, 105, 101, 100]), .lit (.string [110, 111, 32, 115, 112, 97, 99, 101, 32, 108, 101, 102, 116]), .lit (.string [116, 111, 111, 32, 109, 97, 110, 121, 32, 108, 105, 110, 107, 115]), .lit (.string [110, 97, 109, 101, 32, 116, 111, 111, 32, 108, 111, 110, 103]), .lit (.string [100, 105, 114, 101, 99, 116, 111, 114, 121, 32, 110, 111, 116, 32, 101, 109, 112, 116, 121]), .lit (.string [100, 105, 114, 101, 99, 116, 111, 114, 121, 32, 105, 110, 116, 111, 32, 105, 116, 115, 101, 108, 102]), .lit (.string []), .lit (.string [102, 105, 108, 101, 32, 116, 111, 111, 32, 108, 97, 114, 103, 101])]

/-- 'toolchestlaw15.CallsDo': WHATEVER THE INPUT: true; the input reads as it did. -/
def callsDoSpec : ChangeSpec := { name := "callsDo", fn := fun _ => fun
  | [d1, d2] => { results := [.lit (.bool true)], args := [d1, d2] }
  | _ => none }
def callsDoRow : OpenClaim := { program := "ytidhceebafmlkaagreatdoor", sum := "34accc56ac9820db835f580812bbc8faebdde6de1a0fa61d06edaf815fa33be4", func := "toolchest/toolchestlaw15.CallsDo", spec := "callsDo", inPlace := ["internal/bytealg.IndexByteString", "internal/bytealg.abigen_runtime_cmpstring", "slices.overlaps[toolchest/api.Entry]"], unfollowed := true, recurses := true, named := ["toolchest/calls.rows", "internal/strconv.uint64pow10", "math/bits.deBruijn32tab", "math/bits.deBruijn64tab"], apart := false, laid := [("math/bits.deBruijn32tab", laid_math_bits_deBruijn32tab), ("math/bits.deBruijn64tab", laid_math_bits_deBruijn64tab), ("internal/strconv.uint64pow10", laid_internal_strconv_uint64pow10), ("toolchest/calls.rows", laid_toolchest_calls_rows)] }
def CallsDoSaid : Prop := callsDoRow.holds Tryz.pinned (OpenSpec.ofChange callsDoSpec)

/-- ITS FALSE NEIGHBOUR: 'it returns false'. Refute it at one input. -/
def callsDoWrong : ChangeSpec := { name := "callsDo", fn := fun _ => fun
  | [d1, d2] => { results := [.lit (.bool false)], args := [d1, d2] }
  | _ => none }
def CallsDoWrongFalsely : Prop := callsDoRow.holds Tryz.pinned (OpenSpec.ofChange callsDoWrong)

/-- 'toolchestlaw15.CallsLook': WHATEVER THE INPUT: true; the input reads as it did. -/
def callsLookSpec : ChangeSpec := { name := "callsLook", fn := fun _ => fun
  | [d] => { results := [.lit (.bool true)], args := [d] }
  | _ => none }
def callsLookRow : OpenClaim := { program := "ytidhceebafmlkaagreatdoor", sum := "34accc56ac9820db835f580812bbc8faebdde6de1a0fa61d06edaf815fa33be4", func := "toolchest/toolchestlaw15.CallsLook", spec := "callsLook", inPlace := ["internal/bytealg.IndexByteString", "internal/bytealg.abigen_runtime_cmpstring", "slices.overlaps[toolchest/api.Entry]"], unfollowed := true, recurses := true, named := ["toolchest/calls.rows", "internal/strconv.uint64pow10", "math/bits.deBruijn32tab", "math/bits.deBruijn64tab"], apart := false, laid := [("math/bits.deBruijn32tab", laid_math_bits_deBruijn32tab), ("math/bits.deBruijn64tab", laid_math_bits_deBruijn64tab), ("internal/strconv.uint64pow10", laid_internal_strconv_uint64pow10), ("toolchest/calls.rows", laid_toolchest_calls_rows)] }
def CallsLookSaid : Prop := callsLookRow.holds Tryz.pinned (OpenSpec.ofChange callsLookSpec)

/-- ITS FALSE NEIGHBOUR: 'it returns false'. Refute it at one input. -/
def callsLookWrong : ChangeSpec := { name := "callsLook", fn := fun _ => fun
  | [d] => { results := [.lit (.bool false)], args := [d] }
  | _ => none }
def CallsLookWrongFalsely : Prop := callsLookRow.holds Tryz.pinned (OpenSpec.ofChange callsLookWrong)

/-- 'toolchestlaw15.CallsWords': WHATEVER THE INPUT: true; the input reads as it did. -/
def callsWordsSpec : ChangeSpec := { name := "callsWords", fn := fun _ => fun
  | [d] => { results := [.lit (.bool true)], args := [d] }
  | _ => none }
def callsWordsRow : OpenClaim := { program := "ytidhceebafmlkaagreatdoor", sum := "34accc56ac9820db835f580812bbc8faebdde6de1a0fa61d06edaf815fa33be4", func := "toolchest/toolchestlaw15.CallsWords", spec := "callsWords", inPlace := ["internal/bytealg.IndexByteString", "internal/bytealg.abigen_runtime_cmpstring", "slices.overlaps[toolchest/api.Entry]"], unfollowed := true, recurses := true, named := ["toolchest/calls.words", "toolchest/calls.rows"], apart := false, laid := [("toolchest/calls.rows", laid_toolchest_calls_rows), ("toolchest/calls.words", laid_toolchest_calls_words)] }
def CallsWordsSaid : Prop := callsWordsRow.holds Tryz.pinned (OpenSpec.ofChange callsWordsSpec)

/-- ITS FALSE NEIGHBOUR: 'it returns false'. Refute it at one input. -/
def callsWordsWrong : ChangeSpec := { name := "callsWords", fn := fun _ => fun
  | [d] => { results := [.lit (.bool false)], args := [d] }
  | _ => none }
def CallsWordsWrongFalsely : Prop := callsWordsRow.holds Tryz.pinned (OpenSpec.ofChange callsWordsWrong)

/-- 'toolchestlaw15.CallsKeep': WHATEVER THE INPUT: true; the input reads as it did. -/
def callsKeepSpec : ChangeSpec := { name := "callsKeep", fn := fun _ => fun
  | [d1, d2] => { results := [.lit (.bool true)], args := [d1, d2] }
  | _ => none }
def callsKeepRow : OpenClaim := { program := "ytidhceebafmlkaagreatdoor", sum := "34accc56ac9820db835f580812bbc8faebdde6de1a0fa61d06edaf815fa33be4", func := "toolchest/toolchestlaw15.CallsKeep", spec := "callsKeep", inPlace := ["internal/bytealg.IndexByteString", "internal/bytealg.abigen_runtime_cmpstring", "slices.overlaps[toolchest/api.Entry]"], unfollowed := true, recurses := true, named := ["toolchest/calls.rows"], apart := false, laid := [("toolchest/calls.rows", laid_toolchest_calls_rows)] }
def CallsKeepSaid : Prop := callsKeepRow.holds Tryz.pinned (OpenSpec.ofChange callsKeepSpec)

/-- ITS FALSE NEIGHBOUR: 'it returns false'. Refute it at one input. -/
def callsKeepWrong : ChangeSpec := { name := "callsKeep", fn := fun _ => fun
  | [d1, d2] => { results := [.lit (.bool false)], args := [d1, d2] }
  | _ => none }
def CallsKeepWrongFalsely : Prop := callsKeepRow.holds Tryz.pinned (OpenSpec.ofChange callsKeepWrong)

/-- 'toolchestlaw15.CallsGuard': WHATEVER THE INPUT: true; the input reads as it did. -/
def callsGuardSpec : ChangeSpec := { name := "callsGuard", fn := fun _ => fun
  | [d1, d2] => { results := [.lit (.bool true)], args := [d1, d2] }
  | _ => none }
def callsGuardRow : OpenClaim := { program := "ytidhceebafmlkaagreatdoor", sum := "34accc56ac9820db835f580812bbc8faebdde6de1a0fa61d06edaf815fa33be4", func := "toolchest/toolchestlaw15.CallsGuard", spec := "callsGuard", inPlace := ["internal/bytealg.IndexByteString", "internal/bytealg.abigen_runtime_cmpstring", "slices.overlaps[toolchest/api.Entry]"], unfollowed := true, recurses := true, named := ["toolchest/calls.rows"], apart := false, laid := [("toolchest/calls.rows", laid_toolchest_calls_rows)] }
def CallsGuardSaid : Prop := callsGuardRow.holds Tryz.pinned (OpenSpec.ofChange callsGuardSpec)

/-- ITS FALSE NEIGHBOUR: 'it returns false'. Refute it at one input. -/
def callsGuardWrong : ChangeSpec := { name := "callsGuard", fn := fun _ => fun
  | [d1, d2] => { results := [.lit (.bool false)], args := [d1, d2] }
  | _ => none }
def CallsGuardWrongFalsely : Prop := callsGuardRow.holds Tryz.pinned (OpenSpec.ofChange callsGuardWrong)

/-- 'toolchestlaw15.CallsMove': WHATEVER THE INPUT: true; the input reads as it did. -/
def callsMoveSpec : ChangeSpec := { name := "callsMove", fn := fun _ => fun
  | [d] => { results := [.lit (.bool true)], args := [d] }
  | _ => none }
def callsMoveRow : OpenClaim := { program := "ytidhceebafmlkaagreatdoor", sum := "34accc56ac9820db835f580812bbc8faebdde6de1a0fa61d06edaf815fa33be4", func := "toolchest/toolchestlaw15.CallsMove", spec := "callsMove", inPlace := ["internal/bytealg.IndexByteString", "internal/bytealg.abigen_runtime_cmpstring", "slices.overlaps[toolchest/api.Entry]"], unfollowed := true, recurses := true, named := ["toolchest/calls.rows"], apart := false, laid := [("toolchest/calls.rows", laid_toolchest_calls_rows)] }
def CallsMoveSaid : Prop := callsMoveRow.holds Tryz.pinned (OpenSpec.ofChange callsMoveSpec)

/-- ITS FALSE NEIGHBOUR: 'it returns false'. Refute it at one input. -/
def callsMoveWrong : ChangeSpec := { name := "callsMove", fn := fun _ => fun
  | [d] => { results := [.lit (.bool false)], args := [d] }
  | _ => none }
def CallsMoveWrongFalsely : Prop := callsMoveRow.holds Tryz.pinned (OpenSpec.ofChange callsMoveWrong)

/- THE SECOND FORM. 'bulk': how many values and letters a reading holds, each counted each time it is reached (what is shared counts as often as it is met; a slice's spare places count too). A statement '..UptoSaid' is the law's where the arguments, and the package variables that the reading takes, are together of bulk at most 1048576: NARROWER than '..Said'. Prove '..Said' where nothing that the law and all that it calls make is longer than what came in: it says more and counts as full. Else prove '..UptoSaid'. A law counts once. -/
mutual
def uptoBulk {H : Type} : DataW H → Nat
  | .lit (.string bytes) => bytes.length + 1
  | .lit _ => 1
  | .nil => 1
  | .ptr d => uptoBulk d + 1
  | .slice elems spare => uptoBulkAll elems + uptoBulkAll spare + 1
  | .agg parts => uptoBulkAll parts + 1
  | .iface _ d => uptoBulk d + 1
  | .map entries => uptoBulkEntries entries + 1
  | .held _ => 1
def uptoBulkAll {H : Type} : List (DataW H) → Nat
  | [] => 0
  | d :: r => uptoBulk d + uptoBulkAll r
def uptoBulkEntries {H : Type} : List (Lit × DataW H) → Nat
  | [] => 0
  | x :: r => uptoBulkEntry x + uptoBulkEntries r
def uptoBulkEntry {H : Type} : Lit × DataW H → Nat
  | (.string bytes, d) => bytes.length + uptoBulk d + 1
  | (_, d) => uptoBulk d + 1
 end
def uptoSmall : (H : Type) → List (DataW H) → Bool := fun _ ds => decide (uptoBulkAll ds ≤ 1048576)
def OpenSpec.upto (s : _root_.Go.ChangeSpec) : _root_.Go.OpenSpec := { _root_.Go.OpenSpec.ofChange s with cond := some uptoSmall }

/-- 'toolchestlaw15.CallsDo', WHERE WHAT IT READS IS OF BULK AT MOST 1048576: true; the input reads as it did. -/
def callsDoUptoRow : OpenClaim := { program := "ytidhceebafmlkaagreatdoor", sum := "34accc56ac9820db835f580812bbc8faebdde6de1a0fa61d06edaf815fa33be4", func := "toolchest/toolchestlaw15.CallsDo", spec := "callsDo", inPlace := ["internal/bytealg.IndexByteString", "internal/bytealg.abigen_runtime_cmpstring", "slices.overlaps[toolchest/api.Entry]"], unfollowed := true, recurses := true, named := ["toolchest/calls.rows", "internal/strconv.uint64pow10", "math/bits.deBruijn32tab", "math/bits.deBruijn64tab"], apart := false, laid := [("math/bits.deBruijn32tab", laid_math_bits_deBruijn32tab), ("math/bits.deBruijn64tab", laid_math_bits_deBruijn64tab), ("internal/strconv.uint64pow10", laid_internal_strconv_uint64pow10), ("toolchest/calls.rows", laid_toolchest_calls_rows)], narrowed := true }
def CallsDoUptoSaid : Prop := callsDoUptoRow.holds Tryz.pinned (OpenSpec.upto callsDoSpec)

/-- 'toolchestlaw15.CallsLook', WHERE WHAT IT READS IS OF BULK AT MOST 1048576: true; the input reads as it did. -/
def callsLookUptoRow : OpenClaim := { program := "ytidhceebafmlkaagreatdoor", sum := "34accc56ac9820db835f580812bbc8faebdde6de1a0fa61d06edaf815fa33be4", func := "toolchest/toolchestlaw15.CallsLook", spec := "callsLook", inPlace := ["internal/bytealg.IndexByteString", "internal/bytealg.abigen_runtime_cmpstring", "slices.overlaps[toolchest/api.Entry]"], unfollowed := true, recurses := true, named := ["toolchest/calls.rows", "internal/strconv.uint64pow10", "math/bits.deBruijn32tab", "math/bits.deBruijn64tab"], apart := false, laid := [("math/bits.deBruijn32tab", laid_math_bits_deBruijn32tab), ("math/bits.deBruijn64tab", laid_math_bits_deBruijn64tab), ("internal/strconv.uint64pow10", laid_internal_strconv_uint64pow10), ("toolchest/calls.rows", laid_toolchest_calls_rows)], narrowed := true }
def CallsLookUptoSaid : Prop := callsLookUptoRow.holds Tryz.pinned (OpenSpec.upto callsLookSpec)

/-- 'toolchestlaw15.CallsWords', WHERE WHAT IT READS IS OF BULK AT MOST 1048576: true; the input reads as it did. -/
def callsWordsUptoRow : OpenClaim := { program := "ytidhceebafmlkaagreatdoor", sum := "34accc56ac9820db835f580812bbc8faebdde6de1a0fa61d06edaf815fa33be4", func := "toolchest/toolchestlaw15.CallsWords", spec := "callsWords", inPlace := ["internal/bytealg.IndexByteString", "internal/bytealg.abigen_runtime_cmpstring", "slices.overlaps[toolchest/api.Entry]"], unfollowed := true, recurses := true, named := ["toolchest/calls.words", "toolchest/calls.rows"], apart := false, laid := [("toolchest/calls.rows", laid_toolchest_calls_rows), ("toolchest/calls.words", laid_toolchest_calls_words)], narrowed := true }
def CallsWordsUptoSaid : Prop := callsWordsUptoRow.holds Tryz.pinned (OpenSpec.upto callsWordsSpec)

/-- 'toolchestlaw15.CallsKeep', WHERE WHAT IT READS IS OF BULK AT MOST 1048576: true; the input reads as it did. -/
def callsKeepUptoRow : OpenClaim := { program := "ytidhceebafmlkaagreatdoor", sum := "34accc56ac9820db835f580812bbc8faebdde6de1a0fa61d06edaf815fa33be4", func := "toolchest/toolchestlaw15.CallsKeep", spec := "callsKeep", inPlace := ["internal/bytealg.IndexByteString", "internal/bytealg.abigen_runtime_cmpstring", "slices.overlaps[toolchest/api.Entry]"], unfollowed := true, recurses := true, named := ["toolchest/calls.rows"], apart := false, laid := [("toolchest/calls.rows", laid_toolchest_calls_rows)], narrowed := true }
def CallsKeepUptoSaid : Prop := callsKeepUptoRow.holds Tryz.pinned (OpenSpec.upto callsKeepSpec)

/-- 'toolchestlaw15.CallsGuard', WHERE WHAT IT READS IS OF BULK AT MOST 1048576: true; the input reads as it did. -/
def callsGuardUptoRow : OpenClaim := { program := "ytidhceebafmlkaagreatdoor", sum := "34accc56ac9820db835f580812bbc8faebdde6de1a0fa61d06edaf815fa33be4", func := "toolchest/toolchestlaw15.CallsGuard", spec := "callsGuard", inPlace := ["internal/bytealg.IndexByteString", "internal/bytealg.abigen_runtime_cmpstring", "slices.overlaps[toolchest/api.Entry]"], unfollowed := true, recurses := true, named := ["toolchest/calls.rows"], apart := false, laid := [("toolchest/calls.rows", laid_toolchest_calls_rows)], narrowed := true }
def CallsGuardUptoSaid : Prop := callsGuardUptoRow.holds Tryz.pinned (OpenSpec.upto callsGuardSpec)

/-- 'toolchestlaw15.CallsMove', WHERE WHAT IT READS IS OF BULK AT MOST 1048576: true; the input reads as it did. -/
def callsMoveUptoRow : OpenClaim := { program := "ytidhceebafmlkaagreatdoor", sum := "34accc56ac9820db835f580812bbc8faebdde6de1a0fa61d06edaf815fa33be4", func := "toolchest/toolchestlaw15.CallsMove", spec := "callsMove", inPlace := ["internal/bytealg.IndexByteString", "internal/bytealg.abigen_runtime_cmpstring", "slices.overlaps[toolchest/api.Entry]"], unfollowed := true, recurses := true, named := ["toolchest/calls.rows"], apart := false, laid := [("toolchest/calls.rows", laid_toolchest_calls_rows)], narrowed := true }
def CallsMoveUptoSaid : Prop := callsMoveUptoRow.holds Tryz.pinned (OpenSpec.upto callsMoveSpec)

end Rows
end Go.Proofs.YtidhceebafmlkaaGreatDoor
