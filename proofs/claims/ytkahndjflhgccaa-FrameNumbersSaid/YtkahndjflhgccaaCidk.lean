/-
  The book's names and Kinds (narthexkeep.CID, Kinds).
-/
import Derived.Test.YtkahndjflhgccaaMc
import Derived.Test.YtkahndjflhgccaaMb
import Derived.IntWalk
namespace Go.Proofs.Ytkahndjflhgccaa
set_option linter.unusedVariables false
open Go.RowKit
end Go.Proofs.Ytkahndjflhgccaa
