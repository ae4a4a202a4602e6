/-
  What a Kind asks alone: frame.asked, for every frame.
-/
import Derived.Test.YtndaikeeikimeaaMq17
namespace Go.Proofs.Ytndaikeeikimeaa
set_option linter.unusedVariables false
open Go.RowKit
end Go.Proofs.Ytndaikeeikimeaa
