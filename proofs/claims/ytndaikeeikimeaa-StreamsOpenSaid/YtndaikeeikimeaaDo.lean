/-
  outbuf.Buffer: Next, where region 4 gives s4.
-/
import Derived.Test.YtndaikeeikimeaaMq9
namespace Go.Proofs.Ytndaikeeikimeaa
set_option linter.unusedVariables false
set_option linter.unusedSimpArgs false
open Go.RowKit
end Go.Proofs.Ytndaikeeikimeaa
