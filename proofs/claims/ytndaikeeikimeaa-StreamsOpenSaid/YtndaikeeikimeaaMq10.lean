/-
  outbuf.Buffer: Next, whole.
-/
import Derived.Test.YtndaikeeikimeaaDl
import Derived.Test.YtndaikeeikimeaaDm
import Derived.Test.YtndaikeeikimeaaDn
import Derived.Test.YtndaikeeikimeaaDo
import Derived.Test.YtndaikeeikimeaaMq8
namespace Go.Proofs.Ytndaikeeikimeaa
section
set_option linter.unusedVariables false
set_option linter.unusedSimpArgs false
open Go.RowKit
end
section
set_option linter.unusedVariables false
set_option linter.unusedSimpArgs false
open Go.RowKit
end
end Go.Proofs.Ytndaikeeikimeaa
