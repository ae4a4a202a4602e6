/-
  The document's own Encode of a head (narthexref5).
-/
import Derived.Test.YtehdilgnlhhjdaaMq13
import Derived.Test.YtehdilgnlhhjdaaMq4
import Derived.Test.YtehdilgnlhhjdaaMq16
import Derived.Deep.AppendLies
namespace Go.Proofs.Ytehdilgnlhhjdaa
set_option linter.unusedVariables false
set_option linter.unusedSimpArgs false
open Go.RowKit
end Go.Proofs.Ytehdilgnlhhjdaa
