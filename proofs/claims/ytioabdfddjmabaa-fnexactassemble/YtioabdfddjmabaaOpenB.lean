/-
  WHAT A SLICE OF BYTES THAT CAME IN HOLDS.
-/
import Derived.Test.YtioabdfddjmabaaOpen
import Derived.Test.YtioabdfddjmabaaBytes
import Derived.Test.YtioabdfddjmabaaMathD
namespace Go.Proofs.Ytioabdfddjmabaa
open Go.RowKit
set_option linter.unusedVariables false

end Go.Proofs.Ytioabdfddjmabaa
