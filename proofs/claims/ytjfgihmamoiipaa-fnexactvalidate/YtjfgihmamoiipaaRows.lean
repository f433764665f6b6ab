/-
  No cell of these rows narrows 'for every input' (looked for: loops, veiled, ifaces, maps, wideKeys, modest, calm, conditions, laid).
  DERIVED. THE GIVEN ROWS OF THIS SEAT. 9 by the template 'for every input the law returns true; each argument reads behind the call as it read before'; 0 by the template 'total and deterministic' (their statements: YtjfgihmamoiipaaTotals.lean).
  GIVEN WITH THE SEED: the statements are not yours to turn. If you find one false, say at which input.
  Laid BY PROGRAM, IN A SANDBOX (cutbox-rows.mjs): the forced cells as the released guide's own fill.sh prints them over the translation d183f07cd6552dfb… (all of the seat's roots in one cut). By AI agents, Wed Nov 11 2026. No macro, syntax, notation, axiom, sorry.
-/
import Derived.Test.YtjfgihmamoiipaaChecked
import GoSem.Claim
import GoSem.ClaimJoined
import GoSem.ClaimMapViews
import Derived.JoinedTies
import Derived.KernelRfl
namespace Go.Proofs.Ytjfgihmamoiipaa
/- THE CELL 'sum', in the pinned program and in every row, IS THE sha256 OF THE DUMP (.gsa) THAT YtjfgihmamoiipaaProg.lean LOADS. Nothing in Lean hashes anything: it is a label: what it is worth is what the hold of that sum in a sandbox is worth. -/
noncomputable def Try.pinned : Pinned := { name := "ytjfgihmamoiipaa", sum := "d183f07cd6552dfb2f82cbbd833583d1dfafdb8cfba3850364902b63e28916c3", checked := Try.checked }
namespace Rows
def none {H : Type} : Left H := { results := [], args := [] }

/-- 'laws.FnProgram': WHATEVER THE INPUT: true; the input reads as it did. -/
def fnProgramSpec : ChangeSpec := { name := "fnProgram", fn := fun _ => fun
  | [d] => { results := [.lit (.bool true)], args := [d] }
  | _ => none }
def fnProgramRow : OpenClaim := { program := "ytjfgihmamoiipaa", sum := "d183f07cd6552dfb2f82cbbd833583d1dfafdb8cfba3850364902b63e28916c3", func := "loop.example/s0039/laws.FnProgram", spec := "fnProgram", recurses := true, apart := false }
def FnProgramSaid : Prop := fnProgramRow.holds Try.pinned (OpenSpec.ofChange fnProgramSpec)

/-- ITS FALSE NEIGHBOUR: 'it returns false'. Refute it at one input. -/
def fnProgramWrong : ChangeSpec := { name := "fnProgram", fn := fun _ => fun
  | [d] => { results := [.lit (.bool false)], args := [d] }
  | _ => none }
def FnProgramWrongFalsely : Prop := fnProgramRow.holds Try.pinned (OpenSpec.ofChange fnProgramWrong)

/-- 'laws.FnExactValidate': WHATEVER THE INPUT: true; the input reads as it did. -/
def fnExactValidateSpec : ChangeSpec := { name := "fnExactValidate", fn := fun _ => fun
  | [d] => { results := [.lit (.bool true)], args := [d] }
  | _ => none }
def fnExactValidateRow : OpenClaim := { program := "ytjfgihmamoiipaa", sum := "d183f07cd6552dfb2f82cbbd833583d1dfafdb8cfba3850364902b63e28916c3", func := "loop.example/s0039/laws.FnExactValidate", spec := "fnExactValidate", apart := false }
def FnExactValidateSaid : Prop := fnExactValidateRow.holds Try.pinned (OpenSpec.ofChange fnExactValidateSpec)

/-- ITS FALSE NEIGHBOUR: 'it returns false'. Refute it at one input. -/
def fnExactValidateWrong : ChangeSpec := { name := "fnExactValidate", fn := fun _ => fun
  | [d] => { results := [.lit (.bool false)], args := [d] }
  | _ => none }
def FnExactValidateWrongFalsely : Prop := fnExactValidateRow.holds Try.pinned (OpenSpec.ofChange fnExactValidateWrong)

/-- 'laws.FnExactRun': WHATEVER THE INPUT: true; the input reads as it did. -/
def fnExactRunSpec : ChangeSpec := { name := "fnExactRun", fn := fun _ => fun
  | [d1, d2] => { results := [.lit (.bool true)], args := [d1, d2] }
  | _ => none }
def fnExactRunRow : OpenClaim := { program := "ytjfgihmamoiipaa", sum := "d183f07cd6552dfb2f82cbbd833583d1dfafdb8cfba3850364902b63e28916c3", func := "loop.example/s0039/laws.FnExactRun", spec := "fnExactRun", recurses := true, apart := false }
def FnExactRunSaid : Prop := fnExactRunRow.holds Try.pinned (OpenSpec.ofChange fnExactRunSpec)

/-- ITS FALSE NEIGHBOUR: 'it returns false'. Refute it at one input. -/
def fnExactRunWrong : ChangeSpec := { name := "fnExactRun", fn := fun _ => fun
  | [d1, d2] => { results := [.lit (.bool false)], args := [d1, d2] }
  | _ => none }
def FnExactRunWrongFalsely : Prop := fnExactRunRow.holds Try.pinned (OpenSpec.ofChange fnExactRunWrong)

/-- 'laws.FnExactEncodeProgram': WHATEVER THE INPUT: true; the input reads as it did. -/
def fnExactEncodeProgramSpec : ChangeSpec := { name := "fnExactEncodeProgram", fn := fun _ => fun
  | [d] => { results := [.lit (.bool true)], args := [d] }
  | _ => none }
def fnExactEncodeProgramRow : OpenClaim := { program := "ytjfgihmamoiipaa", sum := "d183f07cd6552dfb2f82cbbd833583d1dfafdb8cfba3850364902b63e28916c3", func := "loop.example/s0039/laws.FnExactEncodeProgram", spec := "fnExactEncodeProgram", apart := false }
def FnExactEncodeProgramSaid : Prop := fnExactEncodeProgramRow.holds Try.pinned (OpenSpec.ofChange fnExactEncodeProgramSpec)

/-- ITS FALSE NEIGHBOUR: 'it returns false'. Refute it at one input. -/
def fnExactEncodeProgramWrong : ChangeSpec := { name := "fnExactEncodeProgram", fn := fun _ => fun
  | [d] => { results := [.lit (.bool false)], args := [d] }
  | _ => none }
def FnExactEncodeProgramWrongFalsely : Prop := fnExactEncodeProgramRow.holds Try.pinned (OpenSpec.ofChange fnExactEncodeProgramWrong)

/-- 'laws.FnExactDecodeProgram': WHATEVER THE INPUT: true; the input reads as it did. -/
def fnExactDecodeProgramSpec : ChangeSpec := { name := "fnExactDecodeProgram", fn := fun _ => fun
  | [d] => { results := [.lit (.bool true)], args := [d] }
  | _ => none }
def fnExactDecodeProgramRow : OpenClaim := { program := "ytjfgihmamoiipaa", sum := "d183f07cd6552dfb2f82cbbd833583d1dfafdb8cfba3850364902b63e28916c3", func := "loop.example/s0039/laws.FnExactDecodeProgram", spec := "fnExactDecodeProgram", apart := false }
def FnExactDecodeProgramSaid : Prop := fnExactDecodeProgramRow.holds Try.pinned (OpenSpec.ofChange fnExactDecodeProgramSpec)

/-- ITS FALSE NEIGHBOUR: 'it returns false'. Refute it at one input. -/
def fnExactDecodeProgramWrong : ChangeSpec := { name := "fnExactDecodeProgram", fn := fun _ => fun
  | [d] => { results := [.lit (.bool false)], args := [d] }
  | _ => none }
def FnExactDecodeProgramWrongFalsely : Prop := fnExactDecodeProgramRow.holds Try.pinned (OpenSpec.ofChange fnExactDecodeProgramWrong)

/-- 'laws.FnExactChecksum': WHATEVER THE INPUT: true; the input reads as it did. -/
def fnExactChecksumSpec : ChangeSpec := { name := "fnExactChecksum", fn := fun _ => fun
  | [d] => { results := [.lit (.bool true)], args := [d] }
  | _ => none }
def fnExactChecksumRow : OpenClaim := { program := "ytjfgihmamoiipaa", sum := "d183f07cd6552dfb2f82cbbd833583d1dfafdb8cfba3850364902b63e28916c3", func := "loop.example/s0039/laws.FnExactChecksum", spec := "fnExactChecksum", apart := false }
def FnExactChecksumSaid : Prop := fnExactChecksumRow.holds Try.pinned (OpenSpec.ofChange fnExactChecksumSpec)

/-- ITS FALSE NEIGHBOUR: 'it returns false'. Refute it at one input. -/
def fnExactChecksumWrong : ChangeSpec := { name := "fnExactChecksum", fn := fun _ => fun
  | [d] => { results := [.lit (.bool false)], args := [d] }
  | _ => none }
def FnExactChecksumWrongFalsely : Prop := fnExactChecksumRow.holds Try.pinned (OpenSpec.ofChange fnExactChecksumWrong)

/-- 'laws.FnExactEncodeLog': WHATEVER THE INPUT: true; the input reads as it did. -/
def fnExactEncodeLogSpec : ChangeSpec := { name := "fnExactEncodeLog", fn := fun _ => fun
  | [d] => { results := [.lit (.bool true)], args := [d] }
  | _ => none }
def fnExactEncodeLogRow : OpenClaim := { program := "ytjfgihmamoiipaa", sum := "d183f07cd6552dfb2f82cbbd833583d1dfafdb8cfba3850364902b63e28916c3", func := "loop.example/s0039/laws.FnExactEncodeLog", spec := "fnExactEncodeLog", recurses := true, apart := false }
def FnExactEncodeLogSaid : Prop := fnExactEncodeLogRow.holds Try.pinned (OpenSpec.ofChange fnExactEncodeLogSpec)

/-- ITS FALSE NEIGHBOUR: 'it returns false'. Refute it at one input. -/
def fnExactEncodeLogWrong : ChangeSpec := { name := "fnExactEncodeLog", fn := fun _ => fun
  | [d] => { results := [.lit (.bool false)], args := [d] }
  | _ => none }
def FnExactEncodeLogWrongFalsely : Prop := fnExactEncodeLogRow.holds Try.pinned (OpenSpec.ofChange fnExactEncodeLogWrong)

/-- 'laws.FnExactDistinct': WHATEVER THE INPUT: true; the input reads as it did. -/
def fnExactDistinctSpec : ChangeSpec := { name := "fnExactDistinct", fn := fun _ => fun
  | [d] => { results := [.lit (.bool true)], args := [d] }
  | _ => none }
def fnExactDistinctRow : OpenClaim := { program := "ytjfgihmamoiipaa", sum := "d183f07cd6552dfb2f82cbbd833583d1dfafdb8cfba3850364902b63e28916c3", func := "loop.example/s0039/laws.FnExactDistinct", spec := "fnExactDistinct", unfollowed := true, recurses := true, apart := false }
def FnExactDistinctSaid : Prop := fnExactDistinctRow.holds Try.pinned (OpenSpec.ofChange fnExactDistinctSpec)

/-- ITS FALSE NEIGHBOUR: 'it returns false'. Refute it at one input. -/
def fnExactDistinctWrong : ChangeSpec := { name := "fnExactDistinct", fn := fun _ => fun
  | [d] => { results := [.lit (.bool false)], args := [d] }
  | _ => none }
def FnExactDistinctWrongFalsely : Prop := fnExactDistinctRow.holds Try.pinned (OpenSpec.ofChange fnExactDistinctWrong)

/-- 'laws.FnExactMakeRecord': WHATEVER THE INPUT: true; the input reads as it did. -/
def fnExactMakeRecordSpec : ChangeSpec := { name := "fnExactMakeRecord", fn := fun _ => fun
  | [d1, d2] => { results := [.lit (.bool true)], args := [d1, d2] }
  | _ => none }
def fnExactMakeRecordRow : OpenClaim := { program := "ytjfgihmamoiipaa", sum := "d183f07cd6552dfb2f82cbbd833583d1dfafdb8cfba3850364902b63e28916c3", func := "loop.example/s0039/laws.FnExactMakeRecord", spec := "fnExactMakeRecord", apart := false }
def FnExactMakeRecordSaid : Prop := fnExactMakeRecordRow.holds Try.pinned (OpenSpec.ofChange fnExactMakeRecordSpec)

/-- ITS FALSE NEIGHBOUR: 'it returns false'. Refute it at one input. -/
def fnExactMakeRecordWrong : ChangeSpec := { name := "fnExactMakeRecord", fn := fun _ => fun
  | [d1, d2] => { results := [.lit (.bool false)], args := [d1, d2] }
  | _ => none }
def FnExactMakeRecordWrongFalsely : Prop := fnExactMakeRecordRow.holds Try.pinned (OpenSpec.ofChange fnExactMakeRecordWrong)

/- THE SECOND FORM. 'bulk': how many values and letters a reading holds, each counted each time it is reached (what is shared counts as often as it is met; a slice's spare places count too). A statement '..UptoSaid' is the law's where the arguments, and the package variables that the reading takes, are together of bulk at most 1048576: NARROWER than '..Said'. Prove '..Said' where nothing that the law and all that it calls make is longer than what came in: it says more and counts as full. Else prove '..UptoSaid'. A law counts once. -/
mutual
def uptoBulk {H : Type} : DataW H → Nat
  | .lit (.string bytes) => bytes.length + 1
  | .lit _ => 1
  | .nil => 1
  | .ptr d => uptoBulk d + 1
  | .slice elems spare => uptoBulkAll elems + uptoBulkAll spare + 1
  | .agg parts => uptoBulkAll parts + 1
  | .iface _ d => uptoBulk d + 1
  | .map entries => uptoBulkEntries entries + 1
  | .held _ => 1
def uptoBulkAll {H : Type} : List (DataW H) → Nat
  | [] => 0
  | d :: r => uptoBulk d + uptoBulkAll r
def uptoBulkEntries {H : Type} : List (Lit × DataW H) → Nat
  | [] => 0
  | x :: r => uptoBulkEntry x + uptoBulkEntries r
def uptoBulkEntry {H : Type} : Lit × DataW H → Nat
  | (.string bytes, d) => bytes.length + uptoBulk d + 1
  | (_, d) => uptoBulk d + 1
 end
def uptoSmall : (H : Type) → List (DataW H) → Bool := fun _ ds => decide (uptoBulkAll ds ≤ 1048576)
def OpenSpec.upto (s : _root_.Go.ChangeSpec) : _root_.Go.OpenSpec := { _root_.Go.OpenSpec.ofChange s with cond := some uptoSmall }

/-- 'laws.FnProgram', WHERE WHAT IT READS IS OF BULK AT MOST 1048576: true; the input reads as it did. -/
def fnProgramUptoRow : OpenClaim := { program := "ytjfgihmamoiipaa", sum := "d183f07cd6552dfb2f82cbbd833583d1dfafdb8cfba3850364902b63e28916c3", func := "loop.example/s0039/laws.FnProgram", spec := "fnProgram", recurses := true, apart := false, narrowed := true }
def FnProgramUptoSaid : Prop := fnProgramUptoRow.holds Try.pinned (OpenSpec.upto fnProgramSpec)

/-- 'laws.FnExactValidate', WHERE WHAT IT READS IS OF BULK AT MOST 1048576: true; the input reads as it did. -/
def fnExactValidateUptoRow : OpenClaim := { program := "ytjfgihmamoiipaa", sum := "d183f07cd6552dfb2f82cbbd833583d1dfafdb8cfba3850364902b63e28916c3", func := "loop.example/s0039/laws.FnExactValidate", spec := "fnExactValidate", apart := false, narrowed := true }
def FnExactValidateUptoSaid : Prop := fnExactValidateUptoRow.holds Try.pinned (OpenSpec.upto fnExactValidateSpec)

/-- 'laws.FnExactRun', WHERE WHAT IT READS IS OF BULK AT MOST 1048576: true; the input reads as it did. -/
def fnExactRunUptoRow : OpenClaim := { program := "ytjfgihmamoiipaa", sum := "d183f07cd6552dfb2f82cbbd833583d1dfafdb8cfba3850364902b63e28916c3", func := "loop.example/s0039/laws.FnExactRun", spec := "fnExactRun", recurses := true, apart := false, narrowed := true }
def FnExactRunUptoSaid : Prop := fnExactRunUptoRow.holds Try.pinned (OpenSpec.upto fnExactRunSpec)

/-- 'laws.FnExactEncodeProgram', WHERE WHAT IT READS IS OF BULK AT MOST 1048576: true; the input reads as it did. -/
def fnExactEncodeProgramUptoRow : OpenClaim := { program := "ytjfgihmamoiipaa", sum := "d183f07cd6552dfb2f82cbbd833583d1dfafdb8cfba3850364902b63e28916c3", func := "loop.example/s0039/laws.FnExactEncodeProgram", spec := "fnExactEncodeProgram", apart := false, narrowed := true }
def FnExactEncodeProgramUptoSaid : Prop := fnExactEncodeProgramUptoRow.holds Try.pinned (OpenSpec.upto fnExactEncodeProgramSpec)

/-- 'laws.FnExactDecodeProgram', WHERE WHAT IT READS IS OF BULK AT MOST 1048576: true; the input reads as it did. -/
def fnExactDecodeProgramUptoRow : OpenClaim := { program := "ytjfgihmamoiipaa", sum := "d183f07cd6552dfb2f82cbbd833583d1dfafdb8cfba3850364902b63e28916c3", func := "loop.example/s0039/laws.FnExactDecodeProgram", spec := "fnExactDecodeProgram", apart := false, narrowed := true }
def FnExactDecodeProgramUptoSaid : Prop := fnExactDecodeProgramUptoRow.holds Try.pinned (OpenSpec.upto fnExactDecodeProgramSpec)

/-- 'laws.FnExactChecksum', WHERE WHAT IT READS IS OF BULK AT MOST 1048576: true; the input reads as it did. -/
def fnExactChecksumUptoRow : OpenClaim := { program := "ytjfgihmamoiipaa", sum := "d183f07cd6552dfb2f82cbbd833583d1dfafdb8cfba3850364902b63e28916c3", func := "loop.example/s0039/laws.FnExactChecksum", spec := "fnExactChecksum", apart := false, narrowed := true }
def FnExactChecksumUptoSaid : Prop := fnExactChecksumUptoRow.holds Try.pinned (OpenSpec.upto fnExactChecksumSpec)

/-- 'laws.FnExactEncodeLog', WHERE WHAT IT READS IS OF BULK AT MOST 1048576: true; the input reads as it did. -/
def fnExactEncodeLogUptoRow : OpenClaim := { program := "ytjfgihmamoiipaa", sum := "d183f07cd6552dfb2f82cbbd833583d1dfafdb8cfba3850364902b63e28916c3", func := "loop.example/s0039/laws.FnExactEncodeLog", spec := "fnExactEncodeLog", recurses := true, apart := false, narrowed := true }
def FnExactEncodeLogUptoSaid : Prop := fnExactEncodeLogUptoRow.holds Try.pinned (OpenSpec.upto fnExactEncodeLogSpec)

/-- 'laws.FnExactDistinct', WHERE WHAT IT READS IS OF BULK AT MOST 1048576: true; the input reads as it did. -/
def fnExactDistinctUptoRow : OpenClaim := { program := "ytjfgihmamoiipaa", sum := "d183f07cd6552dfb2f82cbbd833583d1dfafdb8cfba3850364902b63e28916c3", func := "loop.example/s0039/laws.FnExactDistinct", spec := "fnExactDistinct", unfollowed := true, recurses := true, apart := false, narrowed := true }
def FnExactDistinctUptoSaid : Prop := fnExactDistinctUptoRow.holds Try.pinned (OpenSpec.upto fnExactDistinctSpec)

/-- 'laws.FnExactMakeRecord', WHERE WHAT IT READS IS OF BULK AT MOST 1048576: true; the input reads as it did. -/
def fnExactMakeRecordUptoRow : OpenClaim := { program := "ytjfgihmamoiipaa", sum := "d183f07cd6552dfb2f82cbbd833583d1dfafdb8cfba3850364902b63e28916c3", func := "loop.example/s0039/laws.FnExactMakeRecord", spec := "fnExactMakeRecord", apart := false, narrowed := true }
def FnExactMakeRecordUptoSaid : Prop := fnExactMakeRecordUptoRow.holds Try.pinned (OpenSpec.upto fnExactMakeRecordSpec)

end Rows
end Go.Proofs.Ytjfgihmamoiipaa
