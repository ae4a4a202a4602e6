/-
  What each function of package bits that turns numbers answers, for every number of its kind: Low, Extend, Rot, Zig, Zag, Clamp; Within of the statements' book.
-/
import Derived.Test.YtpegfmgbmfoiaaaProg
import Derived.Test.YtpegfmgbmfoiaaaArith
import Derived.WalkKit
import Derived.ProofKit
import Derived.OpenShut
import Derived.Lib.Hide
import Derived.Outline
import Derived.WalkLawsBesides
import Derived.WalkSpells
import Derived.RegionTactic
import Derived.ChangeAlike
import Derived.Deep.QuietTactic
import Derived.BigQuiet
namespace Go.Proofs.Ytpegfmgbmfoiaaa
set_option linter.unusedVariables false
open Go.RowKit
theorem low_any (n k : Int) (w : World) (h0 : 0 ≤ n) (h1 : n < 18446744073709551616) (hk : k ≤ 9223372036854775807) (hk0 : -9223372036854775808 ≤ k) :
    Calls Try.prog 25 #[.int .u64 n, .int .i64 k] w fun e w' => e = .returned (.int .u64 (lowS n k)) ∧ w = w' := by
  rcases Int.lt_or_le k 1 with h | h
  · go_enter Try.func25, Try.ntmps25
    go_wp2
    go_ret
    exact ⟨by simp [lowS, h], rfl⟩
  · rcases Int.lt_or_le 63 k with h2 | h2
    · go_enter Try.func25, Try.ntmps25
      go_wp2
      go_ret
      exact ⟨by simp [lowS, Int.not_lt.2 h, h2], rfl⟩
    · have hfin := low_and n k.toNat h0 h1 (by omega)
      have H := Lib.hid hfin; clear hfin
      go_enter Try.func25, Try.ntmps25
      go_wp2
      go_ret
      exact ⟨by simp [lowS, Int.not_lt.2 h, Int.not_lt.2 h2, H.out], rfl⟩
theorem ext_any (n k : Int) (w : World) (h0 : 0 ≤ n) (h1 : n < 18446744073709551616) (hk : k ≤ 9223372036854775807) (hk0 : -9223372036854775808 ≤ k) :
    Calls Try.prog 24 #[.int .u64 n, .int .i64 k] w fun e w' => e = .returned (.int .i64 (extS n k)) ∧ w = w' := by
  rcases Int.lt_or_le k 1 with h | h
  · go_enter Try.func24, Try.ntmps24
    go_wp2
    go_ret
    exact ⟨by simp [extS, h], rfl⟩
  · rcases Int.lt_or_le 64 k with h2 | h2
    · have hfin : wrap64 n = extS n k := by
        have := ext_shift n 0 64 (by omega) (by omega)
        rw [Int.pow_zero, Int.mul_one, Int.ediv_one, IntKind.wrap_u64, show n % 18446744073709551616 = n by omega] at this
        rw [this, extS, if_neg (by omega), show (min k 64).toNat = 64 by omega]
      have H := Lib.hid hfin; clear hfin
      go_enter Try.func24, Try.ntmps24
      go_wp2
      go_ret
      exact ⟨by simp [H.out], rfl⟩
    · have hfin : wrap64 (IntKind.u64.wrap (n * 2 ^ (64 - k).toNat)) / 2 ^ (64 - k).toNat = extS n k := by
        rw [ext_shift n (64 - k).toNat k.toNat (by omega) (by omega), extS, if_neg (by omega), show min k 64 = k by omega]
      have H := Lib.hid hfin; clear hfin
      go_enter Try.func24, Try.ntmps24
      go_wp2
      go_ret
      exact ⟨by simp [H.out], rfl⟩
theorem clamp_ite (n k L U : Int) (K : Nat) (hK : (min (max k 1) 64).toNat = K) (hL : L = -(2 ^ (K - 1))) (hU : U = 2 ^ (K - 1) - 1) :
    (if U < (if n < L then L else n) then U else (if n < L then L else n)) = clampS n k := by
  unfold clampS
  rw [hK, ← hL, ← hU]
  have hp := pow_pos' (K - 1)
  split <;> split at * <;> omega
theorem ret_int {k : IntKind} {a b : Int} (h : a = b) : Ending.returned (.int k a) = .returned (.int k b) := by rw [h]
theorem clamp_any (n k : Int) (w : World) (hn0 : -9223372036854775808 ≤ n) (hn1 : n ≤ 9223372036854775807) (hk : k ≤ 9223372036854775807) (hk0 : -9223372036854775808 ≤ k) :
    Calls Try.prog 23 #[.int .i64 n, .int .i64 k] w fun e w' => e = .returned (.int .i64 (clampS n k)) ∧ w' = w.drew := by
  rcases Int.lt_or_le k 1 with h | h
  · have hfin := clamp_ite n k (-1) 0 1 (by omega) (by decide) (by decide)
    have H := Lib.hid hfin; clear hfin
    go_enter Try.func23, Try.ntmps23
    go_wp2
    go_region
    go_wp2
    all_goals
      go_ret
      exact ⟨ret_int (by rw [← H.out]; (repeat' split) <;> first | rfl | omega), rfl⟩
  · rcases Int.lt_or_le 64 k with h2 | h2
    · have hfin := clamp_ite n k (-9223372036854775808) 9223372036854775807 64 (by omega) (by decide) (by decide)
      have H := Lib.hid hfin; clear hfin
      go_enter Try.func23, Try.ntmps23
      go_wp2
      go_region
      go_wp2
      all_goals
        go_ret
        exact ⟨ret_int (by rw [← H.out]; (repeat' split) <;> first | rfl | omega), rfl⟩
    · have hfin := clamp_ite n k (-9223372036854775808 / 2 ^ (64 - k).toNat) (9223372036854775807 / 2 ^ (64 - k).toNat) k.toNat (by omega) (min_shift _ _ (by omega) (by omega)) (max_shift _ _ (by omega) (by omega))
      have H := Lib.hid hfin; clear hfin
      go_enter Try.func23, Try.ntmps23
      go_wp2
      go_region
      go_wp2
      all_goals
        go_ret
        exact ⟨ret_int (by rw [← H.out]; (repeat' split) <;> first | rfl | omega), rfl⟩
theorem rot_any (n k : Int) (w : World) (h0 : 0 ≤ n) (h1 : n < 18446744073709551616) :
    Calls Try.prog 22 #[.int .u64 n, .int .i64 k] w fun e w' => e = .returned (.int .u64 (rotS n (k % 64).toNat)) ∧ w = w' := by
  obtain ⟨l, hl, hl63, hlk⟩ : ∃ l : Nat, bits BinOp.and IntKind.u64 (IntKind.u64.wrap k) 63 = (l : Int) ∧ (l : Int) ≤ 63 ∧ (k % 64).toNat = l := by
    refine ⟨(k % 64).toNat, ?_, by omega, rfl⟩
    rw [IntKind.wrap_u64, u64_and _ _ (by omega) (by omega) (by omega) (by omega), show (63 : Int).toNat = 63 by decide, nat_mask6]
    omega
  have hfin := rot_or n l h0 h1 (by omega)
  rw [hlk]
  have H := Lib.hid hfin; clear hfin hlk
  go_enter Try.func22, Try.ntmps22
  go_wp2
  go_ret
  exact ⟨by simp [H.out], rfl⟩
theorem zig_any (n : Int) (w : World) (h0 : -9223372036854775808 ≤ n) (h1 : n ≤ 9223372036854775807) :
    Calls Try.prog 21 #[.int .i64 n] w fun e w' => e = .returned (.int .u64 (zigS n)) ∧ w = w' := by
  have hfin := zig_xor n h0 h1
  have H := Lib.hid hfin; clear hfin
  go_enter Try.func21, Try.ntmps21
  go_wp2
  go_ret
  exact ⟨by simp [H.out], rfl⟩
theorem zag_any (n : Int) (w : World) (h0 : 0 ≤ n) (h1 : n < 18446744073709551616) :
    Calls Try.prog 20 #[.int .u64 n] w fun e w' => e = .returned (.int .i64 (zagS n)) ∧ w = w' := by
  have hfin := zag_xor n h0 h1
  have H := Lib.hid hfin; clear hfin
  go_enter Try.func20, Try.ntmps20
  go_wp2
  go_ret
  exact ⟨by simp [H.out], rfl⟩
end Go.Proofs.Ytpegfmgbmfoiaaa
