/-
  The document's own Encode of a head (narthexref5).
-/
import Derived.Test.YtijjiifekilapaaMq12
import Derived.Test.YtijjiifekilapaaMq8
import Derived.Test.YtijjiifekilapaaMq16
import Derived.Deep.AppendLies
namespace Go.Proofs.Ytijjiifekilapaa
set_option linter.unusedVariables false
set_option linter.unusedSimpArgs false
open Go.RowKit
end Go.Proofs.Ytijjiifekilapaa
