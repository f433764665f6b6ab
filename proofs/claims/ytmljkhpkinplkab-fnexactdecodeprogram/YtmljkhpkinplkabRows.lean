/-
  No cell of these rows narrows 'for every input' (looked for: loops, veiled, ifaces, maps, wideKeys, modest, calm, conditions, laid).
  DERIVED. THE GIVEN ROWS OF THIS SEAT. 4 by the template 'for every input the law returns true; each argument reads behind the call as it read before'; 0 by the template 'total and deterministic' (their statements: YtmljkhpkinplkabTotals.lean).
  GIVEN WITH THE SEED: the statements are not yours to turn. If you find one false, say at which input.
  Laid BY PROGRAM, IN A SANDBOX (cutbox-rows.mjs): the forced cells as the released guide's own fill.sh prints them over the translation f4c7b2a91d875970… (all of the seat's roots in one cut). By AI agents, Wed Nov 11 2026. No macro, syntax, notation, axiom, sorry.
-/
import Derived.Test.YtmljkhpkinplkabChecked
import GoSem.Claim
import GoSem.ClaimJoined
import GoSem.ClaimMapViews
import Derived.JoinedTies
import Derived.KernelRfl
namespace Go.Proofs.Ytmljkhpkinplkab
/- THE CELL 'sum', in the pinned program and in every row, IS THE sha256 OF THE DUMP (.gsa) THAT YtmljkhpkinplkabProg.lean LOADS. Nothing in Lean hashes anything: it is a label: what it is worth is what the hold of that sum in a sandbox is worth. -/
noncomputable def Try.pinned : Pinned := { name := "ytmljkhpkinplkab", sum := "f4c7b2a91d875970778d953f069b0c69508a1b8b04cde73b1145b1e0d17fa822", checked := Try.checked }
namespace Rows
def none {H : Type} : Left H := { results := [], args := [] }

/-- 'laws.FnExactEncodeProgram': WHATEVER THE INPUT: true; the input reads as it did. -/
def fnExactEncodeProgramSpec : ChangeSpec := { name := "fnExactEncodeProgram", fn := fun _ => fun
  | [d] => { results := [.lit (.bool true)], args := [d] }
  | _ => none }
def fnExactEncodeProgramRow : OpenClaim := { program := "ytmljkhpkinplkab", sum := "f4c7b2a91d875970778d953f069b0c69508a1b8b04cde73b1145b1e0d17fa822", func := "loop.example/s0039/laws.FnExactEncodeProgram", spec := "fnExactEncodeProgram", apart := false }
def FnExactEncodeProgramSaid : Prop := fnExactEncodeProgramRow.holds Try.pinned (OpenSpec.ofChange fnExactEncodeProgramSpec)

/-- ITS FALSE NEIGHBOUR: 'it returns false'. Refute it at one input. -/
def fnExactEncodeProgramWrong : ChangeSpec := { name := "fnExactEncodeProgram", fn := fun _ => fun
  | [d] => { results := [.lit (.bool false)], args := [d] }
  | _ => none }
def FnExactEncodeProgramWrongFalsely : Prop := fnExactEncodeProgramRow.holds Try.pinned (OpenSpec.ofChange fnExactEncodeProgramWrong)

/-- 'laws.FnExactDecodeProgram': WHATEVER THE INPUT: true; the input reads as it did. -/
def fnExactDecodeProgramSpec : ChangeSpec := { name := "fnExactDecodeProgram", fn := fun _ => fun
  | [d] => { results := [.lit (.bool true)], args := [d] }
  | _ => none }
def fnExactDecodeProgramRow : OpenClaim := { program := "ytmljkhpkinplkab", sum := "f4c7b2a91d875970778d953f069b0c69508a1b8b04cde73b1145b1e0d17fa822", func := "loop.example/s0039/laws.FnExactDecodeProgram", spec := "fnExactDecodeProgram", apart := false }
def FnExactDecodeProgramSaid : Prop := fnExactDecodeProgramRow.holds Try.pinned (OpenSpec.ofChange fnExactDecodeProgramSpec)

/-- ITS FALSE NEIGHBOUR: 'it returns false'. Refute it at one input. -/
def fnExactDecodeProgramWrong : ChangeSpec := { name := "fnExactDecodeProgram", fn := fun _ => fun
  | [d] => { results := [.lit (.bool false)], args := [d] }
  | _ => none }
def FnExactDecodeProgramWrongFalsely : Prop := fnExactDecodeProgramRow.holds Try.pinned (OpenSpec.ofChange fnExactDecodeProgramWrong)

/-- 'laws.FnExactAllows': WHATEVER THE INPUT: true; the input reads as it did. -/
def fnExactAllowsSpec : ChangeSpec := { name := "fnExactAllows", fn := fun _ => fun
  | [d1, d2] => { results := [.lit (.bool true)], args := [d1, d2] }
  | _ => none }
def fnExactAllowsRow : OpenClaim := { program := "ytmljkhpkinplkab", sum := "f4c7b2a91d875970778d953f069b0c69508a1b8b04cde73b1145b1e0d17fa822", func := "loop.example/s0039/laws.FnExactAllows", spec := "fnExactAllows", apart := false }
def FnExactAllowsSaid : Prop := fnExactAllowsRow.holds Try.pinned (OpenSpec.ofChange fnExactAllowsSpec)

/-- ITS FALSE NEIGHBOUR: 'it returns false'. Refute it at one input. -/
def fnExactAllowsWrong : ChangeSpec := { name := "fnExactAllows", fn := fun _ => fun
  | [d1, d2] => { results := [.lit (.bool false)], args := [d1, d2] }
  | _ => none }
def FnExactAllowsWrongFalsely : Prop := fnExactAllowsRow.holds Try.pinned (OpenSpec.ofChange fnExactAllowsWrong)

/-- 'laws.FnExactMinimise': WHATEVER THE INPUT: true; the input reads as it did. -/
def fnExactMinimiseSpec : ChangeSpec := { name := "fnExactMinimise", fn := fun _ => fun
  | [d] => { results := [.lit (.bool true)], args := [d] }
  | _ => none }
def fnExactMinimiseRow : OpenClaim := { program := "ytmljkhpkinplkab", sum := "f4c7b2a91d875970778d953f069b0c69508a1b8b04cde73b1145b1e0d17fa822", func := "loop.example/s0039/laws.FnExactMinimise", spec := "fnExactMinimise", apart := false }
def FnExactMinimiseSaid : Prop := fnExactMinimiseRow.holds Try.pinned (OpenSpec.ofChange fnExactMinimiseSpec)

/-- ITS FALSE NEIGHBOUR: 'it returns false'. Refute it at one input. -/
def fnExactMinimiseWrong : ChangeSpec := { name := "fnExactMinimise", fn := fun _ => fun
  | [d] => { results := [.lit (.bool false)], args := [d] }
  | _ => none }
def FnExactMinimiseWrongFalsely : Prop := fnExactMinimiseRow.holds Try.pinned (OpenSpec.ofChange fnExactMinimiseWrong)

/- THE SECOND FORM. 'bulk': how many values and letters a reading holds, each counted each time it is reached (what is shared counts as often as it is met; a slice's spare places count too). A statement '..UptoSaid' is the law's where the arguments, and the package variables that the reading takes, are together of bulk at most 1048576: NARROWER than '..Said'. Prove '..Said' where nothing that the law and all that it calls make is longer than what came in: it says more and counts as full. Else prove '..UptoSaid'. A law counts once. -/
mutual
def uptoBulk {H : Type} : DataW H → Nat
  | .lit (.string bytes) => bytes.length + 1
  | .lit _ => 1
  | .nil => 1
  | .ptr d => uptoBulk d + 1
  | .slice elems spare => uptoBulkAll elems + uptoBulkAll spare + 1
  | .agg parts => uptoBulkAll parts + 1
  | .iface _ d => uptoBulk d + 1
  | .map entries => uptoBulkEntries entries + 1
  | .held _ => 1
def uptoBulkAll {H : Type} : List (DataW H) → Nat
  | [] => 0
  | d :: r => uptoBulk d + uptoBulkAll r
def uptoBulkEntries {H : Type} : List (Lit × DataW H) → Nat
  | [] => 0
  | x :: r => uptoBulkEntry x + uptoBulkEntries r
def uptoBulkEntry {H : Type} : Lit × DataW H → Nat
  | (.string bytes, d) => bytes.length + uptoBulk d + 1
  | (_, d) => uptoBulk d + 1
 end
def uptoSmall : (H : Type) → List (DataW H) → Bool := fun _ ds => decide (uptoBulkAll ds ≤ 1048576)
def OpenSpec.upto (s : _root_.Go.ChangeSpec) : _root_.Go.OpenSpec := { _root_.Go.OpenSpec.ofChange s with cond := some uptoSmall }

/-- 'laws.FnExactEncodeProgram', WHERE WHAT IT READS IS OF BULK AT MOST 1048576: true; the input reads as it did. -/
def fnExactEncodeProgramUptoRow : OpenClaim := { program := "ytmljkhpkinplkab", sum := "f4c7b2a91d875970778d953f069b0c69508a1b8b04cde73b1145b1e0d17fa822", func := "loop.example/s0039/laws.FnExactEncodeProgram", spec := "fnExactEncodeProgram", apart := false, narrowed := true }
def FnExactEncodeProgramUptoSaid : Prop := fnExactEncodeProgramUptoRow.holds Try.pinned (OpenSpec.upto fnExactEncodeProgramSpec)

/-- 'laws.FnExactDecodeProgram', WHERE WHAT IT READS IS OF BULK AT MOST 1048576: true; the input reads as it did. -/
def fnExactDecodeProgramUptoRow : OpenClaim := { program := "ytmljkhpkinplkab", sum := "f4c7b2a91d875970778d953f069b0c69508a1b8b04cde73b1145b1e0d17fa822", func := "loop.example/s0039/laws.FnExactDecodeProgram", spec := "fnExactDecodeProgram", apart := false, narrowed := true }
def FnExactDecodeProgramUptoSaid : Prop := fnExactDecodeProgramUptoRow.holds Try.pinned (OpenSpec.upto fnExactDecodeProgramSpec)

/-- 'laws.FnExactAllows', WHERE WHAT IT READS IS OF BULK AT MOST 1048576: true; the input reads as it did. -/
def fnExactAllowsUptoRow : OpenClaim := { program := "ytmljkhpkinplkab", sum := "f4c7b2a91d875970778d953f069b0c69508a1b8b04cde73b1145b1e0d17fa822", func := "loop.example/s0039/laws.FnExactAllows", spec := "fnExactAllows", apart := false, narrowed := true }
def FnExactAllowsUptoSaid : Prop := fnExactAllowsUptoRow.holds Try.pinned (OpenSpec.upto fnExactAllowsSpec)

/-- 'laws.FnExactMinimise', WHERE WHAT IT READS IS OF BULK AT MOST 1048576: true; the input reads as it did. -/
def fnExactMinimiseUptoRow : OpenClaim := { program := "ytmljkhpkinplkab", sum := "f4c7b2a91d875970778d953f069b0c69508a1b8b04cde73b1145b1e0d17fa822", func := "loop.example/s0039/laws.FnExactMinimise", spec := "fnExactMinimise", apart := false, narrowed := true }
def FnExactMinimiseUptoSaid : Prop := fnExactMinimiseUptoRow.holds Try.pinned (OpenSpec.upto fnExactMinimiseSpec)

end Rows
end Go.Proofs.Ytmljkhpkinplkab
