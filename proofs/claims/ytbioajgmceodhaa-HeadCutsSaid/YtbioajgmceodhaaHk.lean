/-
  The head that is drawn may be written.
-/
import Derived.Test.YtbioajgmceodhaaHk0
import Derived.Test.YtbioajgmceodhaaHk1
import Derived.Test.YtbioajgmceodhaaHk2
namespace Go.Proofs.Ytbioajgmceodhaa
set_option linter.unusedVariables false
set_option linter.unusedSimpArgs false
open Go.RowKit
theorem khead_any (P : Nat → Prop) (S T F W : Int) (d : Sl) (ph : Bool) (bs : List Int) (w : World) (hd : InD w P d bs) (hS : -9223372036854775808 ≤ S ∧ S ≤ 9223372036854775807) (hT : -9223372036854775808 ≤ T ∧ T ≤ 9223372036854775807) (hF : -9223372036854775808 ≤ F ∧ F ≤ 9223372036854775807) (hW : -9223372036854775808 ≤ W ∧ W ≤ 9223372036854775807) :
    Calls Try.prog 6 #[.agg (xL S T F W d ph).toArray] w (KHPost w P) := by
  have h := withinS_bd S 0 2 (by decide)
  have h3 : withinS S 0 2 = 0 ∨ withinS S 0 2 = 1 ∨ withinS S 0 2 = 2 := by omega
  rcases h3 with h3 | h3 | h3
  · exact khead_0 P S T F W d ph bs w hd hS hT hF hW h3
  · exact khead_1 P S T F W d ph bs w hd hS hT hF hW h3
  · exact khead_2 P S T F W d ph bs w hd hS hT hF hW h3
end Go.Proofs.Ytbioajgmceodhaa
