/-
  What the document's own Size and Put answer: the bytes of PutVar of package bits, in new memory.
-/
import Derived.Test.YtdakbedohjemeaaMq3
import Derived.Test.YtdakbedohjemeaaMq6
import Derived.Test.YtdakbedohjemeaaMq7
namespace Go.Proofs.Ytdakbedohjemeaa
section
set_option linter.unusedVariables false
open Go.RowKit
end
section
set_option linter.unusedVariables false
open Go.RowKit
end
end Go.Proofs.Ytdakbedohjemeaa
