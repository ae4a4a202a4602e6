/-
  What GetVar of package bits answers, for every row of bytes.
-/
import Derived.Test.YtahalbmcijbbmaaProg
import Derived.Test.YtahalbmcijbbmaaMq9
import Derived.Test.YtahalbmcijbbmaaBytes
namespace Go.Proofs.Ytahalbmcijbbmaa
section
set_option linter.unusedVariables false
open Go.RowKit
end
section
set_option linter.unusedVariables false
open Go.RowKit
end
section
set_option linter.unusedVariables false
open Go.RowKit
end
end Go.Proofs.Ytahalbmcijbbmaa
