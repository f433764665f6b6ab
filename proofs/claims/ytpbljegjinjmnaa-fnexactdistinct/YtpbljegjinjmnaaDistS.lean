/-
  THE LIBRARY's SORT AT CALLS.
-/
import Derived.Test.YtpbljegjinjmnaaRows
import Derived.Shelf.SlSortCmp.WholeK
import Derived.Shelf.Lay
import Derived.Ground.SlsfProg
namespace Go.Proofs.Ytpbljegjinjmnaa
open Go.Shelf Go.RowKit Go.Lib Go.Sort
set_option linter.unusedVariables false
shelf_lay_g SlLaysF0.n6 Slsf 6 at Try 36 as sortCalls
#print axioms sortCalls
end Go.Proofs.Ytpbljegjinjmnaa
