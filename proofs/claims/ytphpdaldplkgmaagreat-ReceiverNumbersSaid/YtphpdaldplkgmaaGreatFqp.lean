/-
  A frame that is right, as bytes, by the document's own answer (narthexref4.One): Crypto, Close, NewCID.
-/
import Derived.Test.YtphpdaldplkgmaaGreatFqo
import Derived.Deep.AppendLies
namespace Go.Proofs.YtphpdaldplkgmaaGreat
set_option linter.unusedVariables false
set_option linter.unusedSimpArgs false
open Go.RowKit
end Go.Proofs.YtphpdaldplkgmaaGreat
