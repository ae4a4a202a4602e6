/-
  Whether rows of bytes as strings are the same; one step of an array's comparison.
-/
import Derived.Test.YtdakbedohjemeaaProg
import Derived.Test.YtdakbedohjemeaaBytes
import Derived.ChangeKeysEq
import Derived.WalkKit
import Derived.Laws.BitsAllLaws
import Derived.Laws.Bits64b
import Derived.Laws.DeepNot64
import Derived.ProofKit
import Derived.OpenShut
import Derived.Lib.Hide
import Derived.Outline
import Derived.WalkLawsBesides
import Derived.WalkSpells
import Derived.RegionTactic
import Derived.ChangeAlike
import Derived.Deep.QuietTactic
import Derived.BigQuiet
namespace Go.Proofs.Ytdakbedohjemeaa
section
set_option linter.unusedVariables false
open Go.RowKit
theorem step_items (W : World) (e : TypeId) (k : IntKind) (hp : Try.prog.plainKey e = true) (hu : Try.prog.underlying e = some (.int k)) (d c : Nat) (xs ys : Array Value) (i : Nat) (is : List Nat) (a b : Int) (hx : xs[i * c]? = some (.int k a)) (hy : ys[i * c]? = some (.int k b)) :
    (Op.eqItems (d + 1) e c xs ys (i :: is)).run Try.prog W = if a == b then (Op.eqItems (d + 1) e c xs ys is).run Try.prog W else .ok false W := by
  simp only [Op.eqItems, Sem.run_bind, run_part_plain W hp hx, run_part_plain W hp hy, run_equalIn_int W d e k k a b hu, Result.andThen_ok]
  cases (a == b) <;> simp
end
section
set_option linter.unusedVariables false
open Go.RowKit
theorem p64 : (2 : Int) ^ 64 = 18446744073709551616 := by decide
theorem wrapI (n : Int) : wrap64 n = (n + 9223372036854775808) % 18446744073709551616 - 9223372036854775808 := by unfold wrap64; rfl
theorem pow_pos' (s : Nat) : (0 : Int) < 2 ^ s := Int.pow_pos (by decide)
theorem pow_split {a b c : Nat} (h : a + b = c) : (2 : Int) ^ a * 2 ^ b = 2 ^ c := by rw [← Int.pow_add, h]
theorem pow_le64 {a : Nat} (h : a ≤ 63) : (2 : Int) ^ a ≤ 9223372036854775808 := by
  have h1 : (2 : Nat) ^ a ≤ 2 ^ 63 := Nat.pow_le_pow_right (by decide) h
  have h2 : ((2 : Int) ^ a) = ((2 ^ a : Nat) : Int) := by simp
  rw [h2]; omega

def rotS (n : Int) (s : Nat) : Int := n * 2 ^ s % 18446744073709551616 + n / 2 ^ (64 - s)
theorem rot_or (n : Int) (s : Nat) (h0 : 0 ≤ n) (h1 : n < 18446744073709551616) (hs : s ≤ 63) :
    bits BinOp.or IntKind.u64 (IntKind.u64.wrap (n * 2 ^ s)) (n / 2 ^ (64 - s)) = rotS n s := by
  have hS := pow_pos' s
  have hM := pow_pos' (64 - s)
  have hSM : (2 : Int) ^ s * 2 ^ (64 - s) = 18446744073709551616 := by rw [pow_split (c := 64) (by omega), p64]
  have q0 : 0 ≤ n / 2 ^ (64 - s) := Int.ediv_nonneg h0 (by omega)
  have q1 : n / 2 ^ (64 - s) < 2 ^ s := by
    apply Int.ediv_lt_of_lt_mul hM; rw [hSM]; exact h1
  have l := pow_le64 hs
  have e : n * 2 ^ s % 18446744073709551616 = 2 ^ s * (n % 2 ^ (64 - s)) := by
    rw [← hSM, Int.mul_comm n, Int.mul_emod_mul_of_pos _ _ hS]
  unfold rotS
  rw [IntKind.wrap_u64]
  have b0 : 0 ≤ n * 2 ^ s % 18446744073709551616 := Int.emod_nonneg _ (by decide)
  have b1 : n * 2 ^ s % 18446744073709551616 < 18446744073709551616 := Int.emod_lt_of_pos _ (by decide)
  rw [u64_or _ _ b0 b1 q0 (by omega)]
  have hm : (n * 2 ^ s % 18446744073709551616).toNat % 2 ^ s = 0 := by
    rw [e]
    obtain ⟨r, hr⟩ := Int.eq_ofNat_of_zero_le (Int.emod_nonneg n (b := 2 ^ (64 - s)) (by omega))
    rw [hr]
    have : ((2 : Int) ^ s * (r : Int)).toNat = 2 ^ s * r := by
      have : ((2 : Int) ^ s * (r : Int)) = ((2 ^ s * r : Nat) : Int) := by simp
      rw [this, Int.toNat_natCast]
    rw [this, Nat.mul_mod_right]
  have hq : (n / 2 ^ (64 - s)).toNat < 2 ^ s := by
    have : ((2 : Int) ^ s) = ((2 ^ s : Nat) : Int) := by simp
    omega
  rw [nat_join s _ _ hm hq]
  omega

theorem rotS_bd (n : Int) (s : Nat) (h0 : 0 ≤ n) (h1 : n < 18446744073709551616) (hs : s ≤ 63) : 0 ≤ rotS n s ∧ rotS n s < 18446744073709551616 := by
  have hS := pow_pos' s
  have hM := pow_pos' (64 - s)
  have hSM : (2 : Int) ^ s * 2 ^ (64 - s) = 18446744073709551616 := by rw [pow_split (c := 64) (by omega), p64]
  have q0 : 0 ≤ n / 2 ^ (64 - s) := Int.ediv_nonneg h0 (by omega)
  have q1 : n / 2 ^ (64 - s) < 2 ^ s := by
    apply Int.ediv_lt_of_lt_mul hM; rw [hSM]; exact h1
  have e : n * 2 ^ s % 18446744073709551616 = 2 ^ s * (n % 2 ^ (64 - s)) := by
    rw [← hSM, Int.mul_comm n, Int.mul_emod_mul_of_pos _ _ hS]
  have r0 : 0 ≤ n % 2 ^ (64 - s) := Int.emod_nonneg _ (by omega)
  have r1 : n % 2 ^ (64 - s) < 2 ^ (64 - s) := Int.emod_lt_of_pos _ hM
  unfold rotS
  rw [e]
  have b0 : 0 ≤ 2 ^ s * (n % 2 ^ (64 - s)) := Int.mul_nonneg (by omega) r0
  have b1 : 2 ^ s * (n % 2 ^ (64 - s) + 1) ≤ 18446744073709551616 := by rw [← hSM]; exact Int.mul_le_mul_of_nonneg_left (by omega) (by omega)
  rw [Int.mul_add] at b1
  omega

end
section
set_option linter.unusedVariables false
open Go.RowKit
theorem ret_int {k : IntKind} {a b : Int} (h : a = b) : Ending.returned (.int k a) = .returned (.int k b) := by rw [h]
theorem rot_any (n k : Int) (w : World) (h0 : 0 ≤ n) (h1 : n < 18446744073709551616) :
    Calls Try.prog 76 #[.int .u64 n, .int .i64 k] w fun e w' => e = .returned (.int .u64 (rotS n (k % 64).toNat)) ∧ w = w' := by
  obtain ⟨l, hl, hl63, hlk⟩ : ∃ l : Nat, bits BinOp.and IntKind.u64 (IntKind.u64.wrap k) 63 = (l : Int) ∧ (l : Int) ≤ 63 ∧ (k % 64).toNat = l := by
    refine ⟨(k % 64).toNat, ?_, by omega, rfl⟩
    rw [IntKind.wrap_u64, u64_and _ _ (by omega) (by omega) (by omega) (by omega), show (63 : Int).toNat = 63 by decide, nat_mask6]
    omega
  have hfin := rot_or n l h0 h1 (by omega)
  rw [hlk]
  have H := Lib.hid hfin; clear hfin hlk
  go_enter Try.func76, Try.ntmps76
  go_wp2
  go_ret
  exact ⟨by simp [H.out], rfl⟩
end
end Go.Proofs.Ytdakbedohjemeaa
