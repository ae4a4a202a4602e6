/-
  What a Kind asks alone: frame.asked, for every frame.
-/
import Derived.Test.YtahalbmcijbbmaaMq9
namespace Go.Proofs.Ytahalbmcijbbmaa
set_option linter.unusedVariables false
open Go.RowKit
end Go.Proofs.Ytahalbmcijbbmaa
