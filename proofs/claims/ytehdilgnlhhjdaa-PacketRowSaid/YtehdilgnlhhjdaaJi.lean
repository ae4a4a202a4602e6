/-
  The document's own Protect: all is well.
-/
import Derived.Test.YtehdilgnlhhjdaaJh
namespace Go.Proofs.Ytehdilgnlhhjdaa
set_option linter.unusedVariables false
set_option linter.unusedSimpArgs false
open Go.RowKit Go.ChangeShapes Go.WideShapes Go.Deep
end Go.Proofs.Ytehdilgnlhhjdaa
