/-
  What the document's own Get answers, for every row of bytes: what GetVar of package bits answers.
-/
import Derived.Test.YtkgeeoogmkpjhaaGet
namespace Go.Proofs.Ytkgeeoogmkpjhaa
set_option linter.unusedVariables false
open Go.RowKit
end Go.Proofs.Ytkgeeoogmkpjhaa
