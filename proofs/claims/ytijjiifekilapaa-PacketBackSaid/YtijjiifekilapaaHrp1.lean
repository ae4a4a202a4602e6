/-
  The document's own Parse of a Handshake's head.
-/
import Derived.Test.YtijjiifekilapaaMq12
import Derived.IntWalk
namespace Go.Proofs.Ytijjiifekilapaa
set_option linter.unusedVariables false
set_option linter.unusedSimpArgs false
open Go.RowKit
end Go.Proofs.Ytijjiifekilapaa
