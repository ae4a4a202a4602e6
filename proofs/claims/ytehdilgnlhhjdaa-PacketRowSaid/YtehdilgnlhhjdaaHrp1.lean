/-
  The document's own Parse of a Handshake's head.
-/
import Derived.Test.YtehdilgnlhhjdaaMq13
import Derived.IntWalk
namespace Go.Proofs.Ytehdilgnlhhjdaa
set_option linter.unusedVariables false
set_option linter.unusedSimpArgs false
open Go.RowKit
end Go.Proofs.Ytehdilgnlhhjdaa
