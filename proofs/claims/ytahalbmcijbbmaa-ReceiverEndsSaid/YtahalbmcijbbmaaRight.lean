/-
  What may be of a frame (frame.numbersRight, frame.Right), for every frame.
-/
import Derived.Test.YtahalbmcijbbmaaMq11
import Derived.Deep.RegionHeld
namespace Go.Proofs.Ytahalbmcijbbmaa
set_option linter.unusedVariables false
set_option linter.unusedSimpArgs false
open Go.RowKit
theorem fr_info : (Try.prog.info? 46).map (·.size) = some 19 := by kernel_rfl
end Go.Proofs.Ytahalbmcijbbmaa
