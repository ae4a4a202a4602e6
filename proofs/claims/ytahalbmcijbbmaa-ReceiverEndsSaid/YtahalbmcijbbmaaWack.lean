/-
  An Ack's ranges as they are written (frame.writeAck).
-/
import Derived.Test.YtahalbmcijbbmaaMq13
import Derived.IntWalk
namespace Go.Proofs.Ytahalbmcijbbmaa
set_option linter.unusedVariables false
set_option linter.unusedSimpArgs false
open Go.RowKit
end Go.Proofs.Ytahalbmcijbbmaa
