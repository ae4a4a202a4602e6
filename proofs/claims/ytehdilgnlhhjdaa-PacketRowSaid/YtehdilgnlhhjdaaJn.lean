/-
  The document's Of; what the program seals and opens is what the document says.
-/
import Derived.Test.YtehdilgnlhhjdaaJi
import Derived.Test.YtehdilgnlhhjdaaMq17
import Derived.Test.YtehdilgnlhhjdaaMq6
namespace Go.Proofs.Ytehdilgnlhhjdaa
set_option linter.unusedVariables false
set_option linter.unusedSimpArgs false
open Go.RowKit Go.ChangeShapes Go.WideShapes Go.Deep
end Go.Proofs.Ytehdilgnlhhjdaa
