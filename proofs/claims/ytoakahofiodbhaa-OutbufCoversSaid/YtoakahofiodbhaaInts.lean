/-
  What each function of package bits that turns numbers answers, for every number of its kind: Low, Extend, Rot, Zig, Zag, Clamp; Within of the statements' book.
-/
import Derived.Test.YtoakahofiodbhaaProg
import Derived.Test.YtoakahofiodbhaaArith
import Derived.WalkKit
import Derived.ProofKit
import Derived.OpenShut
import Derived.Lib.Hide
import Derived.Outline
import Derived.WalkLawsBesides
import Derived.WalkSpells
import Derived.RegionTactic
import Derived.ChangeAlike
import Derived.Deep.QuietTactic
import Derived.BigQuiet
namespace Go.Proofs.Ytoakahofiodbhaa
set_option linter.unusedVariables false
open Go.RowKit
theorem clamp_ite (n k L U : Int) (K : Nat) (hK : (min (max k 1) 64).toNat = K) (hL : L = -(2 ^ (K - 1))) (hU : U = 2 ^ (K - 1) - 1) :
    (if U < (if n < L then L else n) then U else (if n < L then L else n)) = clampS n k := by
  unfold clampS
  rw [hK, ← hL, ← hU]
  have hp := pow_pos' (K - 1)
  split <;> split at * <;> omega
theorem ret_int {k : IntKind} {a b : Int} (h : a = b) : Ending.returned (.int k a) = .returned (.int k b) := by rw [h]
end Go.Proofs.Ytoakahofiodbhaa
