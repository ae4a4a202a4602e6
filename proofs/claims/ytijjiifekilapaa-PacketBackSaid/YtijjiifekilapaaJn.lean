/-
  The document's Of; what the program seals and opens is what the document says.
-/
import Derived.Test.YtijjiifekilapaaJi
import Derived.Test.YtijjiifekilapaaMq17
import Derived.Test.YtijjiifekilapaaMq3
namespace Go.Proofs.Ytijjiifekilapaa
set_option linter.unusedVariables false
set_option linter.unusedSimpArgs false
open Go.RowKit Go.ChangeShapes Go.WideShapes Go.Deep
end Go.Proofs.Ytijjiifekilapaa
