/-
  What the document's own answer (narthexref3) of Whole is, for every number, width and mark.
-/
import Derived.Test.YtehdilgnlhhjdaaPn3
namespace Go.Proofs.Ytehdilgnlhhjdaa
set_option linter.unusedVariables false
open Go.RowKit
end Go.Proofs.Ytehdilgnlhhjdaa
