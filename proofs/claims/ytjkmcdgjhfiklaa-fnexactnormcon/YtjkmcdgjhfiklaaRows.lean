/-
  No cell of these rows narrows 'for every input' (looked for: loops, veiled, ifaces, maps, wideKeys, modest, calm, conditions, laid).
  DERIVED. THE GIVEN ROWS OF THIS SEAT. 6 by the template 'for every input the law returns true; each argument reads behind the call as it read before'; 0 by the template 'total and deterministic' (their statements: YtjkmcdgjhfiklaaTotals.lean).
  GIVEN WITH THE SEED: the statements are not yours to turn. If you find one false, say at which input.
  Laid BY PROGRAM, IN A SANDBOX (cutbox-rows.mjs): the forced cells as the released guide's own fill.sh prints them over the translation efda9d5a6ea084c1… (all of the seat's roots in one cut). By AI agents, Wed Nov 11 2026. No macro, syntax, notation, axiom, sorry.
-/
import Derived.Test.YtjkmcdgjhfiklaaChecked
import GoSem.Claim
import GoSem.ClaimJoined
import GoSem.ClaimMapViews
import Derived.JoinedTies
import Derived.KernelRfl
namespace Go.Proofs.Ytjkmcdgjhfiklaa
/- THE CELL 'sum', in the pinned program and in every row, IS THE sha256 OF THE DUMP (.gsa) THAT YtjkmcdgjhfiklaaProg.lean LOADS. Nothing in Lean hashes anything: it is a label: what it is worth is what the hold of that sum in a sandbox is worth. -/
noncomputable def Try.pinned : Pinned := { name := "ytjkmcdgjhfiklaa", sum := "efda9d5a6ea084c1dead24ce3692159ece95e8bb33ceffc7b2d88fc1e4bd8f3b", checked := Try.checked }
namespace Rows
def none {H : Type} : Left H := { results := [], args := [] }

/-- 'laws.FnExactNormCon': WHATEVER THE INPUT: true; the input reads as it did. -/
def fnExactNormConSpec : ChangeSpec := { name := "fnExactNormCon", fn := fun _ => fun
  | [d] => { results := [.lit (.bool true)], args := [d] }
  | _ => none }
def fnExactNormConRow : OpenClaim := { program := "ytjkmcdgjhfiklaa", sum := "efda9d5a6ea084c1dead24ce3692159ece95e8bb33ceffc7b2d88fc1e4bd8f3b", func := "loop.example/s0039/laws.FnExactNormCon", spec := "fnExactNormCon", unfollowed := true, recurses := true, apart := false }
def FnExactNormConSaid : Prop := fnExactNormConRow.holds Try.pinned (OpenSpec.ofChange fnExactNormConSpec)

/-- ITS FALSE NEIGHBOUR: 'it returns false'. Refute it at one input. -/
def fnExactNormConWrong : ChangeSpec := { name := "fnExactNormCon", fn := fun _ => fun
  | [d] => { results := [.lit (.bool false)], args := [d] }
  | _ => none }
def FnExactNormConWrongFalsely : Prop := fnExactNormConRow.holds Try.pinned (OpenSpec.ofChange fnExactNormConWrong)

/-- 'laws.FnExactConWithin': WHATEVER THE INPUT: true; the input reads as it did. -/
def fnExactConWithinSpec : ChangeSpec := { name := "fnExactConWithin", fn := fun _ => fun
  | [d1, d2] => { results := [.lit (.bool true)], args := [d1, d2] }
  | _ => none }
def fnExactConWithinRow : OpenClaim := { program := "ytjkmcdgjhfiklaa", sum := "efda9d5a6ea084c1dead24ce3692159ece95e8bb33ceffc7b2d88fc1e4bd8f3b", func := "loop.example/s0039/laws.FnExactConWithin", spec := "fnExactConWithin", unfollowed := true, recurses := true, apart := false }
def FnExactConWithinSaid : Prop := fnExactConWithinRow.holds Try.pinned (OpenSpec.ofChange fnExactConWithinSpec)

/-- ITS FALSE NEIGHBOUR: 'it returns false'. Refute it at one input. -/
def fnExactConWithinWrong : ChangeSpec := { name := "fnExactConWithin", fn := fun _ => fun
  | [d1, d2] => { results := [.lit (.bool false)], args := [d1, d2] }
  | _ => none }
def FnExactConWithinWrongFalsely : Prop := fnExactConWithinRow.holds Try.pinned (OpenSpec.ofChange fnExactConWithinWrong)

/-- 'laws.FnNorm': WHATEVER THE INPUT: true; the input reads as it did. -/
def fnNormSpec : ChangeSpec := { name := "fnNorm", fn := fun _ => fun
  | [d] => { results := [.lit (.bool true)], args := [d] }
  | _ => none }
def fnNormRow : OpenClaim := { program := "ytjkmcdgjhfiklaa", sum := "efda9d5a6ea084c1dead24ce3692159ece95e8bb33ceffc7b2d88fc1e4bd8f3b", func := "loop.example/s0039/laws.FnNorm", spec := "fnNorm", unfollowed := true, recurses := true, apart := false }
def FnNormSaid : Prop := fnNormRow.holds Try.pinned (OpenSpec.ofChange fnNormSpec)

/-- ITS FALSE NEIGHBOUR: 'it returns false'. Refute it at one input. -/
def fnNormWrong : ChangeSpec := { name := "fnNorm", fn := fun _ => fun
  | [d] => { results := [.lit (.bool false)], args := [d] }
  | _ => none }
def FnNormWrongFalsely : Prop := fnNormRow.holds Try.pinned (OpenSpec.ofChange fnNormWrong)

/-- 'laws.FnExactValidPolicy': WHATEVER THE INPUT: true; the input reads as it did. -/
def fnExactValidPolicySpec : ChangeSpec := { name := "fnExactValidPolicy", fn := fun _ => fun
  | [d] => { results := [.lit (.bool true)], args := [d] }
  | _ => none }
def fnExactValidPolicyRow : OpenClaim := { program := "ytjkmcdgjhfiklaa", sum := "efda9d5a6ea084c1dead24ce3692159ece95e8bb33ceffc7b2d88fc1e4bd8f3b", func := "loop.example/s0039/laws.FnExactValidPolicy", spec := "fnExactValidPolicy", unfollowed := true, recurses := true, apart := false }
def FnExactValidPolicySaid : Prop := fnExactValidPolicyRow.holds Try.pinned (OpenSpec.ofChange fnExactValidPolicySpec)

/-- ITS FALSE NEIGHBOUR: 'it returns false'. Refute it at one input. -/
def fnExactValidPolicyWrong : ChangeSpec := { name := "fnExactValidPolicy", fn := fun _ => fun
  | [d] => { results := [.lit (.bool false)], args := [d] }
  | _ => none }
def FnExactValidPolicyWrongFalsely : Prop := fnExactValidPolicyRow.holds Try.pinned (OpenSpec.ofChange fnExactValidPolicyWrong)

/-- 'laws.FnExactAllows': WHATEVER THE INPUT: true; the input reads as it did. -/
def fnExactAllowsSpec : ChangeSpec := { name := "fnExactAllows", fn := fun _ => fun
  | [d1, d2] => { results := [.lit (.bool true)], args := [d1, d2] }
  | _ => none }
def fnExactAllowsRow : OpenClaim := { program := "ytjkmcdgjhfiklaa", sum := "efda9d5a6ea084c1dead24ce3692159ece95e8bb33ceffc7b2d88fc1e4bd8f3b", func := "loop.example/s0039/laws.FnExactAllows", spec := "fnExactAllows", unfollowed := true, recurses := true, apart := false }
def FnExactAllowsSaid : Prop := fnExactAllowsRow.holds Try.pinned (OpenSpec.ofChange fnExactAllowsSpec)

/-- ITS FALSE NEIGHBOUR: 'it returns false'. Refute it at one input. -/
def fnExactAllowsWrong : ChangeSpec := { name := "fnExactAllows", fn := fun _ => fun
  | [d1, d2] => { results := [.lit (.bool false)], args := [d1, d2] }
  | _ => none }
def FnExactAllowsWrongFalsely : Prop := fnExactAllowsRow.holds Try.pinned (OpenSpec.ofChange fnExactAllowsWrong)

/-- 'laws.FnExactDistinct': WHATEVER THE INPUT: true; the input reads as it did. -/
def fnExactDistinctSpec : ChangeSpec := { name := "fnExactDistinct", fn := fun _ => fun
  | [d] => { results := [.lit (.bool true)], args := [d] }
  | _ => none }
def fnExactDistinctRow : OpenClaim := { program := "ytjkmcdgjhfiklaa", sum := "efda9d5a6ea084c1dead24ce3692159ece95e8bb33ceffc7b2d88fc1e4bd8f3b", func := "loop.example/s0039/laws.FnExactDistinct", spec := "fnExactDistinct", unfollowed := true, recurses := true, apart := false }
def FnExactDistinctSaid : Prop := fnExactDistinctRow.holds Try.pinned (OpenSpec.ofChange fnExactDistinctSpec)

/-- ITS FALSE NEIGHBOUR: 'it returns false'. Refute it at one input. -/
def fnExactDistinctWrong : ChangeSpec := { name := "fnExactDistinct", fn := fun _ => fun
  | [d] => { results := [.lit (.bool false)], args := [d] }
  | _ => none }
def FnExactDistinctWrongFalsely : Prop := fnExactDistinctRow.holds Try.pinned (OpenSpec.ofChange fnExactDistinctWrong)

/- THE SECOND FORM. 'bulk': how many values and letters a reading holds, each counted each time it is reached (what is shared counts as often as it is met; a slice's spare places count too). A statement '..UptoSaid' is the law's where the arguments, and the package variables that the reading takes, are together of bulk at most 1048576: NARROWER than '..Said'. Prove '..Said' where nothing that the law and all that it calls make is longer than what came in: it says more and counts as full. Else prove '..UptoSaid'. A law counts once. -/
mutual
def uptoBulk {H : Type} : DataW H → Nat
  | .lit (.string bytes) => bytes.length + 1
  | .lit _ => 1
  | .nil => 1
  | .ptr d => uptoBulk d + 1
  | .slice elems spare => uptoBulkAll elems + uptoBulkAll spare + 1
  | .agg parts => uptoBulkAll parts + 1
  | .iface _ d => uptoBulk d + 1
  | .map entries => uptoBulkEntries entries + 1
  | .held _ => 1
def uptoBulkAll {H : Type} : List (DataW H) → Nat
  | [] => 0
  | d :: r => uptoBulk d + uptoBulkAll r
def uptoBulkEntries {H : Type} : List (Lit × DataW H) → Nat
  | [] => 0
  | x :: r => uptoBulkEntry x + uptoBulkEntries r
def uptoBulkEntry {H : Type} : Lit × DataW H → Nat
  | (.string bytes, d) => bytes.length + uptoBulk d + 1
  | (_, d) => uptoBulk d + 1
 end
def uptoSmall : (H : Type) → List (DataW H) → Bool := fun _ ds => decide (uptoBulkAll ds ≤ 1048576)
def OpenSpec.upto (s : _root_.Go.ChangeSpec) : _root_.Go.OpenSpec := { _root_.Go.OpenSpec.ofChange s with cond := some uptoSmall }

/-- 'laws.FnExactNormCon', WHERE WHAT IT READS IS OF BULK AT MOST 1048576: true; the input reads as it did. -/
def fnExactNormConUptoRow : OpenClaim := { program := "ytjkmcdgjhfiklaa", sum := "efda9d5a6ea084c1dead24ce3692159ece95e8bb33ceffc7b2d88fc1e4bd8f3b", func := "loop.example/s0039/laws.FnExactNormCon", spec := "fnExactNormCon", unfollowed := true, recurses := true, apart := false, narrowed := true }
def FnExactNormConUptoSaid : Prop := fnExactNormConUptoRow.holds Try.pinned (OpenSpec.upto fnExactNormConSpec)

/-- 'laws.FnExactConWithin', WHERE WHAT IT READS IS OF BULK AT MOST 1048576: true; the input reads as it did. -/
def fnExactConWithinUptoRow : OpenClaim := { program := "ytjkmcdgjhfiklaa", sum := "efda9d5a6ea084c1dead24ce3692159ece95e8bb33ceffc7b2d88fc1e4bd8f3b", func := "loop.example/s0039/laws.FnExactConWithin", spec := "fnExactConWithin", unfollowed := true, recurses := true, apart := false, narrowed := true }
def FnExactConWithinUptoSaid : Prop := fnExactConWithinUptoRow.holds Try.pinned (OpenSpec.upto fnExactConWithinSpec)

/-- 'laws.FnNorm', WHERE WHAT IT READS IS OF BULK AT MOST 1048576: true; the input reads as it did. -/
def fnNormUptoRow : OpenClaim := { program := "ytjkmcdgjhfiklaa", sum := "efda9d5a6ea084c1dead24ce3692159ece95e8bb33ceffc7b2d88fc1e4bd8f3b", func := "loop.example/s0039/laws.FnNorm", spec := "fnNorm", unfollowed := true, recurses := true, apart := false, narrowed := true }
def FnNormUptoSaid : Prop := fnNormUptoRow.holds Try.pinned (OpenSpec.upto fnNormSpec)

/-- 'laws.FnExactValidPolicy', WHERE WHAT IT READS IS OF BULK AT MOST 1048576: true; the input reads as it did. -/
def fnExactValidPolicyUptoRow : OpenClaim := { program := "ytjkmcdgjhfiklaa", sum := "efda9d5a6ea084c1dead24ce3692159ece95e8bb33ceffc7b2d88fc1e4bd8f3b", func := "loop.example/s0039/laws.FnExactValidPolicy", spec := "fnExactValidPolicy", unfollowed := true, recurses := true, apart := false, narrowed := true }
def FnExactValidPolicyUptoSaid : Prop := fnExactValidPolicyUptoRow.holds Try.pinned (OpenSpec.upto fnExactValidPolicySpec)

/-- 'laws.FnExactAllows', WHERE WHAT IT READS IS OF BULK AT MOST 1048576: true; the input reads as it did. -/
def fnExactAllowsUptoRow : OpenClaim := { program := "ytjkmcdgjhfiklaa", sum := "efda9d5a6ea084c1dead24ce3692159ece95e8bb33ceffc7b2d88fc1e4bd8f3b", func := "loop.example/s0039/laws.FnExactAllows", spec := "fnExactAllows", unfollowed := true, recurses := true, apart := false, narrowed := true }
def FnExactAllowsUptoSaid : Prop := fnExactAllowsUptoRow.holds Try.pinned (OpenSpec.upto fnExactAllowsSpec)

/-- 'laws.FnExactDistinct', WHERE WHAT IT READS IS OF BULK AT MOST 1048576: true; the input reads as it did. -/
def fnExactDistinctUptoRow : OpenClaim := { program := "ytjkmcdgjhfiklaa", sum := "efda9d5a6ea084c1dead24ce3692159ece95e8bb33ceffc7b2d88fc1e4bd8f3b", func := "loop.example/s0039/laws.FnExactDistinct", spec := "fnExactDistinct", unfollowed := true, recurses := true, apart := false, narrowed := true }
def FnExactDistinctUptoSaid : Prop := fnExactDistinctUptoRow.holds Try.pinned (OpenSpec.upto fnExactDistinctSpec)

end Rows
end Go.Proofs.Ytjkmcdgjhfiklaa
