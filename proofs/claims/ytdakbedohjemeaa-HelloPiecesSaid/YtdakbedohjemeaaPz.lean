/-
  Params' bytes read again: what was written is read, in any order; beginnings are none; a name that comes twice is refused.
-/
import Derived.Test.YtdakbedohjemeaaPd
namespace Go.Proofs.Ytdakbedohjemeaa
set_option linter.unusedVariables false
set_option linter.unusedSimpArgs false
open Go.RowKit Go.ChangeShapes Go.WideShapes Go.Deep
end Go.Proofs.Ytdakbedohjemeaa
