/-
  What class, Size and PutVar of package bits answer: PutVar's bytes, in new memory, of any row of bytes that a call may be handed and any number.
-/
import Derived.Test.YtkgeeoogmkpjhaaProg
import Derived.Test.YtkgeeoogmkpjhaaPutMath
namespace Go.Proofs.Ytkgeeoogmkpjhaa
set_option linter.unusedVariables false
open Go.RowKit
theorem u8_info : (Try.prog.info? 5).map (fun i => (i.zero, i.size, i.bytes)) = some (some (.int .u8 0), 1, 1) := by kernel_rfl
theorem splice_take (Z X : List Value) (h : X.length ≤ Z.length) : ((splice Z 0 X).toArray).toList.take X.length = X := by
  simp [splice]
end Go.Proofs.Ytkgeeoogmkpjhaa
