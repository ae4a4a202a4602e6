/-
  What each function of package bits that turns numbers answers, for every number of its kind: Low, Extend, Rot, Zig, Zag, Clamp; Within of the statements' book.
-/
import Derived.Test.YtdcnfkejnhenoaaProg
import Derived.Test.YtdcnfkejnhenoaaArith
import Derived.WalkKit
import Derived.ProofKit
import Derived.OpenShut
import Derived.Lib.Hide
import Derived.Outline
import Derived.WalkLawsBesides
import Derived.WalkSpells
import Derived.RegionTactic
import Derived.ChangeAlike
import Derived.Deep.QuietTactic
import Derived.BigQuiet
namespace Go.Proofs.Ytdcnfkejnhenoaa
set_option linter.unusedVariables false
open Go.RowKit
theorem low_any (n k : Int) (w : World) (h0 : 0 ≤ n) (h1 : n < 18446744073709551616) (hk : k ≤ 9223372036854775807) (hk0 : -9223372036854775808 ≤ k) :
    Calls Try.prog 21 #[.int .u64 n, .int .i64 k] w fun e w' => e = .returned (.int .u64 (lowS n k)) ∧ w = w' := by
  rcases Int.lt_or_le k 1 with h | h
  · go_enter Try.func21, Try.ntmps21
    go_wp2
    go_ret
    exact ⟨by simp [lowS, h], rfl⟩
  · rcases Int.lt_or_le 63 k with h2 | h2
    · go_enter Try.func21, Try.ntmps21
      go_wp2
      go_ret
      exact ⟨by simp [lowS, Int.not_lt.2 h, h2], rfl⟩
    · have hfin := low_and n k.toNat h0 h1 (by omega)
      have H := Lib.hid hfin; clear hfin
      go_enter Try.func21, Try.ntmps21
      go_wp2
      go_ret
      exact ⟨by simp [lowS, Int.not_lt.2 h, Int.not_lt.2 h2, H.out], rfl⟩
theorem clamp_ite (n k L U : Int) (K : Nat) (hK : (min (max k 1) 64).toNat = K) (hL : L = -(2 ^ (K - 1))) (hU : U = 2 ^ (K - 1) - 1) :
    (if U < (if n < L then L else n) then U else (if n < L then L else n)) = clampS n k := by
  unfold clampS
  rw [hK, ← hL, ← hU]
  have hp := pow_pos' (K - 1)
  split <;> split at * <;> omega
theorem ret_int {k : IntKind} {a b : Int} (h : a = b) : Ending.returned (.int k a) = .returned (.int k b) := by rw [h]
end Go.Proofs.Ytdcnfkejnhenoaa
