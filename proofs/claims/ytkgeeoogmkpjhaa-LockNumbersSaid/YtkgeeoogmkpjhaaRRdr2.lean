/-
  The document's own reader (narthexref2): Two, Var, Text; Text and Of of package octet.
-/
import Derived.Test.YtkgeeoogmkpjhaaRRdr
namespace Go.Proofs.Ytkgeeoogmkpjhaa
set_option linter.unusedVariables false
open Go.RowKit
set_option maxRecDepth 100000 in
theorem getS_nil : getS [] = (0, 0) := rfl
end Go.Proofs.Ytkgeeoogmkpjhaa
