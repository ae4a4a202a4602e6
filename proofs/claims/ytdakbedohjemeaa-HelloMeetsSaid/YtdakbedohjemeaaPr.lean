/-
  The document's own Encode of params (narthexref6).
-/
import Derived.Test.YtdakbedohjemeaaMq8
import Derived.Test.YtdakbedohjemeaaRWtr
import Derived.Test.YtdakbedohjemeaaMq18
import Derived.Test.YtdakbedohjemeaaMq2
namespace Go.Proofs.Ytdakbedohjemeaa
set_option linter.unusedVariables false
set_option linter.unusedSimpArgs false
open Go.RowKit Go.ChangeShapes Go.WideShapes Go.Deep
end Go.Proofs.Ytdakbedohjemeaa
