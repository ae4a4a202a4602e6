/-
  A frame that is right, as bytes (frame.write).
-/
import Derived.Test.YtahalbmcijbbmaaWack
namespace Go.Proofs.Ytahalbmcijbbmaa
set_option linter.unusedVariables false
set_option linter.unusedSimpArgs false
open Go.RowKit
end Go.Proofs.Ytahalbmcijbbmaa
