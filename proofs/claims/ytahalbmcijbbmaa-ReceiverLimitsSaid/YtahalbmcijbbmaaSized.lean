/-
  A row of bytes that came in, out of its reading, with how long the reading's lists are.
-/
import Derived.Test.YtahalbmcijbbmaaMq18
import Derived.SizedLaws
namespace Go.Proofs.Ytahalbmcijbbmaa
set_option linter.unusedVariables false
open Go.RowKit Go.ChangeShapes Go.WideShapes Go.Deep
end Go.Proofs.Ytahalbmcijbbmaa
