/-
  What may be of a frame, by the document's own answer (narthexref4.Right): as frame.Right says, for every frame but an Ack.
-/
import Derived.Test.YtbejpafephofaaaGreatMq23
namespace Go.Proofs.YtbejpafephofaaaGreat
set_option linter.unusedVariables false
set_option linter.unusedSimpArgs false
open Go.RowKit
end Go.Proofs.YtbejpafephofaaaGreat
