/-
  What the document's own answers (narthexref1) of Low, Extend, Rot, Zig, Zag, Clamp are, for every number of its kind; Within of the statements' book where lo is at most hi.
-/
import Derived.Test.YtohahkjikhpamaaMq8
import Derived.Test.YtohahkjikhpamaaMq7
import Derived.SizedLaws
namespace Go.Proofs.Ytohahkjikhpamaa
section
set_option linter.unusedVariables false
open Go.RowKit
end
section
set_option linter.unusedVariables false
open Go.RowKit Go.ChangeShapes Go.WideShapes Go.Deep
end
end Go.Proofs.Ytohahkjikhpamaa
