/-
  The head of an Initial that is drawn.
-/
import Derived.Test.YtehdilgnlhhjdaaMq14
namespace Go.Proofs.Ytehdilgnlhhjdaa
set_option linter.unusedVariables false
set_option linter.unusedSimpArgs false
open Go.RowKit
end Go.Proofs.Ytehdilgnlhhjdaa
