/-
  The document's own Parse (narthexref5), whatever bytes.
-/
import Derived.Test.YtehdilgnlhhjdaaHrp0
import Derived.Test.YtehdilgnlhhjdaaHrp1
import Derived.Test.YtehdilgnlhhjdaaHrp2
import Derived.IntWalk
import Derived.Test.YtehdilgnlhhjdaaMq13
namespace Go.Proofs.Ytehdilgnlhhjdaa
set_option linter.unusedVariables false
set_option linter.unusedSimpArgs false
open Go.RowKit
end Go.Proofs.Ytehdilgnlhhjdaa
