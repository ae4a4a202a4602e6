/-
  What each function of package bits that turns numbers answers, for every number of its kind: Low, Extend, Rot, Zig, Zag, Clamp; Within of the statements' book.
-/
import Derived.Test.YtkgeeoogmkpjhaaProg
import Derived.Test.YtkgeeoogmkpjhaaArith
import Derived.WalkKit
import Derived.ProofKit
import Derived.OpenShut
import Derived.Lib.Hide
import Derived.Outline
import Derived.WalkLawsBesides
import Derived.WalkSpells
import Derived.RegionTactic
import Derived.ChangeAlike
import Derived.Deep.QuietTactic
import Derived.BigQuiet
namespace Go.Proofs.Ytkgeeoogmkpjhaa
set_option linter.unusedVariables false
open Go.RowKit
theorem clamp_ite (n k L U : Int) (K : Nat) (hK : (min (max k 1) 64).toNat = K) (hL : L = -(2 ^ (K - 1))) (hU : U = 2 ^ (K - 1) - 1) :
    (if U < (if n < L then L else n) then U else (if n < L then L else n)) = clampS n k := by
  unfold clampS
  rw [hK, ← hL, ← hU]
  have hp := pow_pos' (K - 1)
  split <;> split at * <;> omega
theorem ret_int {k : IntKind} {a b : Int} (h : a = b) : Ending.returned (.int k a) = .returned (.int k b) := by rw [h]
theorem rot_any (n k : Int) (w : World) (h0 : 0 ≤ n) (h1 : n < 18446744073709551616) :
    Calls Try.prog 33 #[.int .u64 n, .int .i64 k] w fun e w' => e = .returned (.int .u64 (rotS n (k % 64).toNat)) ∧ w = w' := by
  obtain ⟨l, hl, hl63, hlk⟩ : ∃ l : Nat, bits BinOp.and IntKind.u64 (IntKind.u64.wrap k) 63 = (l : Int) ∧ (l : Int) ≤ 63 ∧ (k % 64).toNat = l := by
    refine ⟨(k % 64).toNat, ?_, by omega, rfl⟩
    rw [IntKind.wrap_u64, u64_and _ _ (by omega) (by omega) (by omega) (by omega), show (63 : Int).toNat = 63 by decide, nat_mask6]
    omega
  have hfin := rot_or n l h0 h1 (by omega)
  rw [hlk]
  have H := Lib.hid hfin; clear hfin hlk
  go_enter Try.func33, Try.ntmps33
  go_wp2
  go_ret
  exact ⟨by simp [H.out], rfl⟩
end Go.Proofs.Ytkgeeoogmkpjhaa
