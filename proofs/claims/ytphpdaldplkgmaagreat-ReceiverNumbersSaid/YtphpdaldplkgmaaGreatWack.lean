/-
  An Ack's ranges as they are written (frame.writeAck).
-/
import Derived.Test.YtphpdaldplkgmaaGreatMq4
import Derived.IntWalk
namespace Go.Proofs.YtphpdaldplkgmaaGreat
set_option linter.unusedVariables false
set_option linter.unusedSimpArgs false
open Go.RowKit
def agapV : Int → RS → List Int
  | _, [] => []
  | lo, (a, b) :: t => (lo - b - 1) :: (b - 1 - a) :: agapV a t
def ackV (y : Int) (rs : RS) : List Int :=
  match rs.reverse with
  | [] => []
  | (lo, hi) :: t => [hi - 1, y, (rs.length : Int) - 1, hi - 1 - lo] ++ agapV lo t
end Go.Proofs.YtphpdaldplkgmaaGreat
