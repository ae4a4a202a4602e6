/-
  Steps in a region that draws its order; whole structs of any type there; what a call made as a slice that reads.
-/
import Derived.Test.YtafegpedaidmmaaMd
import Derived.Test.YtafegpedaidmmaaN8
import Derived.Test.YtafegpedaidmmaaSteps
import Derived.Deep.RegionHeld
namespace Go.Proofs.Ytafegpedaidmmaa
set_option linter.unusedVariables false
set_option linter.unusedSimpArgs false
open Go.RowKit
end Go.Proofs.Ytafegpedaidmmaa
