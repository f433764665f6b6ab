/-
  CONTRACT of insOf.
-/
import Derived.Test.YtioabdfddjmabaaDec
namespace Go.Proofs.Ytioabdfddjmabaa
open Go.RowKit
set_option linter.unusedVariables false

end Go.Proofs.Ytioabdfddjmabaa
