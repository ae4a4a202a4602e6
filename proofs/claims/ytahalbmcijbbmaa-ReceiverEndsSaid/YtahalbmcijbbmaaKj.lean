/-
  receiver.Receiver: due.
-/
import Derived.Test.YtahalbmcijbbmaaKi
import Derived.Deep.Cut
namespace Go.Proofs.Ytahalbmcijbbmaa
set_option linter.unusedVariables false
set_option linter.unusedSimpArgs false
open Go.RowKit
section
variable {w w' w1 : World} {base p pb : Nat} {O Ob Ob' : Nat → Prop} {X X' : QS}
end
end Go.Proofs.Ytahalbmcijbbmaa
