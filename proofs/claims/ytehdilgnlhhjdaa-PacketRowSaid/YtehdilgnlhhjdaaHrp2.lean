/-
  The document's own Parse of a long head of no space (2).
-/
import Derived.Test.YtehdilgnlhhjdaaMq13
import Derived.IntWalk
namespace Go.Proofs.Ytehdilgnlhhjdaa
set_option linter.unusedVariables false
set_option linter.unusedSimpArgs false
open Go.RowKit
end Go.Proofs.Ytehdilgnlhhjdaa
