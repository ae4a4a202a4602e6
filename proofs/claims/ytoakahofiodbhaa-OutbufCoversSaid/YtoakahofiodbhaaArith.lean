/-
  Plain arithmetic for layer 1: what masks, shifts and turns of 64-bit numbers come to. No condition beyond those of each lemma. Imports nothing of the translation.
-/
import Derived.WalkKit
import Derived.Laws.BitsAllLaws
import Derived.Laws.Bits64b
import Derived.Laws.DeepNot64
namespace Go.Proofs.Ytoakahofiodbhaa
set_option linter.unusedVariables false
open Go.RowKit
theorem p64 : (2 : Int) ^ 64 = 18446744073709551616 := by decide
theorem p63 : (2 : Int) ^ 63 = 9223372036854775808 := by decide
theorem wrapI (n : Int) : wrap64 n = (n + 9223372036854775808) % 18446744073709551616 - 9223372036854775808 := by unfold wrap64; rfl
theorem pow_pos' (s : Nat) : (0 : Int) < 2 ^ s := Int.pow_pos (by decide)
theorem pow_split {a b c : Nat} (h : a + b = c) : (2 : Int) ^ a * 2 ^ b = 2 ^ c := by rw [← Int.pow_add, h]
theorem pow_le64 {a : Nat} (h : a ≤ 63) : (2 : Int) ^ a ≤ 9223372036854775808 := by
  have h1 : (2 : Nat) ^ a ≤ 2 ^ 63 := Nat.pow_le_pow_right (by decide) h
  have h2 : ((2 : Int) ^ a) = ((2 ^ a : Nat) : Int) := by simp
  rw [h2]; omega

def lowS (n k : Int) : Int := if k < 1 then 0 else if 63 < k then n else n % 2 ^ k.toNat
def signS (n : Int) (K : Nat) : Int := if n % 2 ^ K < 2 ^ (K - 1) then n % 2 ^ K else n % 2 ^ K - 2 ^ K
def extS (n k : Int) : Int := if k < 1 then 0 else signS n (min k 64).toNat
def clampS (n k : Int) : Int := max (-(2 ^ ((min (max k 1) 64).toNat - 1))) (min n (2 ^ ((min (max k 1) 64).toNat - 1) - 1))
def rotS (n : Int) (s : Nat) : Int := n * 2 ^ s % 18446744073709551616 + n / 2 ^ (64 - s)
def zigS (n : Int) : Int := if n < 0 then -2 * n - 1 else 2 * n
def zagS (n : Int) : Int := if n % 2 = 1 then -(n / 2) - 1 else n / 2

theorem low_and (n : Int) (K : Nat) (h0 : 0 ≤ n) (h1 : n < 18446744073709551616) (hK : K ≤ 63) :
    bits BinOp.and IntKind.u64 n (IntKind.u64.wrap (IntKind.u64.wrap (2 ^ K) - 1)) = n % 2 ^ K := by
  have hp := pow_pos' K
  have hl := pow_le64 hK
  have e1 : IntKind.u64.wrap ((2 : Int) ^ K) = 2 ^ K := by rw [IntKind.wrap_u64]; omega
  have e2 : IntKind.u64.wrap ((2 : Int) ^ K - 1) = 2 ^ K - 1 := by rw [IntKind.wrap_u64]; omega
  rw [e1, e2, u64_and _ _ h0 h1 (by omega) (by omega)]
  have e3 : ((2 : Int) ^ K - 1).toNat = 2 ^ K - 1 := by
    have : ((2 : Int) ^ K) = ((2 ^ K : Nat) : Int) := by simp
    omega
  rw [e3, Nat.and_two_pow_sub_one_eq_mod]
  obtain ⟨m, rfl⟩ := Int.eq_ofNat_of_zero_le h0
  simp

theorem ext_shift (n : Int) (s K : Nat) (hK : 1 ≤ K) (h : s + K = 64) :
    wrap64 (IntKind.u64.wrap (n * 2 ^ s)) / 2 ^ s = signS n K := by
  have hS := pow_pos' s
  have hM := pow_pos' K
  have hSM : (2 : Int) ^ s * 2 ^ K = 18446744073709551616 := by rw [pow_split h, p64]
  have hSH : (2 : Int) ^ s * 2 ^ (K - 1) = 9223372036854775808 := by rw [pow_split (c := 63) (by omega), p63]
  have e : n * 2 ^ s % 18446744073709551616 = 2 ^ s * (n % 2 ^ K) := by
    rw [← hSM, Int.mul_comm n, Int.mul_emod_mul_of_pos _ _ hS]
  rw [IntKind.wrap_u64, e, wrapI]
  unfold signS
  have r0 : 0 ≤ n % 2 ^ K := Int.emod_nonneg _ (by omega)
  have r1 : n % 2 ^ K < 2 ^ K := Int.emod_lt_of_pos _ hM
  generalize n % 2 ^ K = r at *
  have b0 : 0 ≤ 2 ^ s * r := Int.mul_nonneg (by omega) r0
  have b1 : 2 ^ s * r < 18446744073709551616 := by rw [← hSM]; exact Int.mul_lt_mul_of_pos_left r1 hS
  by_cases hr : r < 2 ^ (K - 1)
  · have b2 : 2 ^ s * r < 9223372036854775808 := by rw [← hSH]; exact Int.mul_lt_mul_of_pos_left hr hS
    rw [if_pos hr, show (2 ^ s * r + 9223372036854775808) % 18446744073709551616 - 9223372036854775808 = 2 ^ s * r by omega]
    exact Int.mul_ediv_cancel_left _ (by omega)
  · have b2 : 9223372036854775808 ≤ 2 ^ s * r := by rw [← hSH]; exact Int.mul_le_mul_of_nonneg_left (by omega) (by omega)
    rw [if_neg hr, show (2 ^ s * r + 9223372036854775808) % 18446744073709551616 - 9223372036854775808 = 2 ^ s * r - 18446744073709551616 by omega, ← hSM, ← Int.mul_sub]
    exact Int.mul_ediv_cancel_left _ (by omega)

theorem min_shift (s K : Nat) (hK : 1 ≤ K) (h : s + K = 64) : (-9223372036854775808 : Int) / 2 ^ s = -(2 ^ (K - 1)) := by
  have hS := pow_pos' s
  have hSH : (2 : Int) ^ s * 2 ^ (K - 1) = 9223372036854775808 := by rw [pow_split (c := 63) (by omega), p63]
  rw [← hSH, ← Int.mul_neg]
  exact Int.mul_ediv_cancel_left _ (by omega)
theorem max_shift (s K : Nat) (hK : 1 ≤ K) (h : s + K = 64) : (9223372036854775807 : Int) / 2 ^ s = 2 ^ (K - 1) - 1 := by
  have hS := pow_pos' s
  have hSH : (2 : Int) ^ s * 2 ^ (K - 1) = 9223372036854775808 := by rw [pow_split (c := 63) (by omega), p63]
  have e : (9223372036854775807 : Int) = (2 ^ s - 1) + 2 ^ s * (2 ^ (K - 1) - 1) := by rw [Int.mul_sub, hSH]; omega
  rw [e, Int.add_mul_ediv_left _ _ (by omega), Int.ediv_eq_zero_of_lt (by omega) (by omega)]; omega

theorem rot_or (n : Int) (s : Nat) (h0 : 0 ≤ n) (h1 : n < 18446744073709551616) (hs : s ≤ 63) :
    bits BinOp.or IntKind.u64 (IntKind.u64.wrap (n * 2 ^ s)) (n / 2 ^ (64 - s)) = rotS n s := by
  have hS := pow_pos' s
  have hM := pow_pos' (64 - s)
  have hSM : (2 : Int) ^ s * 2 ^ (64 - s) = 18446744073709551616 := by rw [pow_split (c := 64) (by omega), p64]
  have q0 : 0 ≤ n / 2 ^ (64 - s) := Int.ediv_nonneg h0 (by omega)
  have q1 : n / 2 ^ (64 - s) < 2 ^ s := by
    apply Int.ediv_lt_of_lt_mul hM; rw [hSM]; exact h1
  have l := pow_le64 hs
  have e : n * 2 ^ s % 18446744073709551616 = 2 ^ s * (n % 2 ^ (64 - s)) := by
    rw [← hSM, Int.mul_comm n, Int.mul_emod_mul_of_pos _ _ hS]
  unfold rotS
  rw [IntKind.wrap_u64]
  have b0 : 0 ≤ n * 2 ^ s % 18446744073709551616 := Int.emod_nonneg _ (by decide)
  have b1 : n * 2 ^ s % 18446744073709551616 < 18446744073709551616 := Int.emod_lt_of_pos _ (by decide)
  rw [u64_or _ _ b0 b1 q0 (by omega)]
  have hm : (n * 2 ^ s % 18446744073709551616).toNat % 2 ^ s = 0 := by
    rw [e]
    obtain ⟨r, hr⟩ := Int.eq_ofNat_of_zero_le (Int.emod_nonneg n (b := 2 ^ (64 - s)) (by omega))
    rw [hr]
    have : ((2 : Int) ^ s * (r : Int)).toNat = 2 ^ s * r := by
      have : ((2 : Int) ^ s * (r : Int)) = ((2 ^ s * r : Nat) : Int) := by simp
      rw [this, Int.toNat_natCast]
    rw [this, Nat.mul_mod_right]
  have hq : (n / 2 ^ (64 - s)).toNat < 2 ^ s := by
    have : ((2 : Int) ^ s) = ((2 ^ s : Nat) : Int) := by simp
    omega
  rw [nat_join s _ _ hm hq]
  omega

theorem rotS_bd (n : Int) (s : Nat) (h0 : 0 ≤ n) (h1 : n < 18446744073709551616) (hs : s ≤ 63) : 0 ≤ rotS n s ∧ rotS n s < 18446744073709551616 := by
  have hS := pow_pos' s
  have hM := pow_pos' (64 - s)
  have hSM : (2 : Int) ^ s * 2 ^ (64 - s) = 18446744073709551616 := by rw [pow_split (c := 64) (by omega), p64]
  have q0 : 0 ≤ n / 2 ^ (64 - s) := Int.ediv_nonneg h0 (by omega)
  have q1 : n / 2 ^ (64 - s) < 2 ^ s := by
    apply Int.ediv_lt_of_lt_mul hM; rw [hSM]; exact h1
  have e : n * 2 ^ s % 18446744073709551616 = 2 ^ s * (n % 2 ^ (64 - s)) := by
    rw [← hSM, Int.mul_comm n, Int.mul_emod_mul_of_pos _ _ hS]
  have r0 : 0 ≤ n % 2 ^ (64 - s) := Int.emod_nonneg _ (by omega)
  have r1 : n % 2 ^ (64 - s) < 2 ^ (64 - s) := Int.emod_lt_of_pos _ hM
  unfold rotS
  rw [e]
  have b0 : 0 ≤ 2 ^ s * (n % 2 ^ (64 - s)) := Int.mul_nonneg (by omega) r0
  have b1 : 2 ^ s * (n % 2 ^ (64 - s) + 1) ≤ 18446744073709551616 := by rw [← hSM]; exact Int.mul_le_mul_of_nonneg_left (by omega) (by omega)
  rw [Int.mul_add] at b1
  omega

theorem rot_rot (n : Int) (s : Nat) (h0 : 0 ≤ n) (h1 : n < 18446744073709551616) (hs : s ≤ 63) (hs1 : 1 ≤ s) : rotS (rotS n s) (64 - s) = n := by
  have hS := pow_pos' s
  have hM := pow_pos' (64 - s)
  have hSM : (2 : Int) ^ s * 2 ^ (64 - s) = 18446744073709551616 := by rw [pow_split (c := 64) (by omega), p64]
  have q0 : 0 ≤ n / 2 ^ (64 - s) := Int.ediv_nonneg h0 (by omega)
  have q1 : n / 2 ^ (64 - s) < 2 ^ s := by
    apply Int.ediv_lt_of_lt_mul hM; rw [hSM]; exact h1
  have e : n * 2 ^ s % 18446744073709551616 = 2 ^ s * (n % 2 ^ (64 - s)) := by
    rw [← hSM, Int.mul_comm n, Int.mul_emod_mul_of_pos _ _ hS]
  have hn : n = 2 ^ (64 - s) * (n / 2 ^ (64 - s)) + n % 2 ^ (64 - s) := (Int.mul_ediv_add_emod _ _).symm
  have e2 : rotS n s = 2 ^ s * (n % 2 ^ (64 - s)) + n / 2 ^ (64 - s) := by unfold rotS; rw [e]
  rw [e2]
  unfold rotS
  rw [show 64 - (64 - s) = s by omega]
  generalize n / 2 ^ (64 - s) = q at *
  have r0 : 0 ≤ n % 2 ^ (64 - s) := Int.emod_nonneg _ (by omega)
  generalize n % 2 ^ (64 - s) = r at *
  have e3 : (2 ^ s * r + q) * 2 ^ (64 - s) = q * 2 ^ (64 - s) + 18446744073709551616 * r := by
    rw [Int.add_mul, ← hSM]
    have : (2 : Int) ^ s * r * 2 ^ (64 - s) = 2 ^ s * 2 ^ (64 - s) * r := by rw [Int.mul_assoc, Int.mul_comm r, ← Int.mul_assoc]
    omega
  rw [e3, Int.add_mul_emod_self_left, Int.add_comm (2 ^ s * r) q, Int.add_mul_ediv_left _ _ (by omega), Int.ediv_eq_zero_of_lt q0 q1]
  have b0 : 0 ≤ q * 2 ^ (64 - s) := Int.mul_nonneg q0 (by omega)
  have b1 : q * 2 ^ (64 - s) < 18446744073709551616 := by rw [← hSM]; exact Int.mul_lt_mul_of_pos_right q1 hM
  rw [Int.emod_eq_of_lt b0 b1, Int.mul_comm]; omega

theorem rot_zero (n : Int) (h0 : 0 ≤ n) (h1 : n < 18446744073709551616) : rotS n 0 = n := by
  unfold rotS
  rw [show 64 - 0 = 64 by omega, p64, Int.pow_zero, Int.mul_one]; omega

theorem nat_xor_ones (X : Nat) (h : X < 18446744073709551616) : X ^^^ 18446744073709551615 = 18446744073709551615 - X := by
  have := congrArg BitVec.toNat (BitVec.xor_allOnes (x := BitVec.ofNat 64 X))
  rw [BitVec.toNat_xor, BitVec.toNat_not, BitVec.toNat_ofNat, BitVec.toNat_allOnes, Nat.mod_eq_of_lt (by omega)] at this
  simpa using this
theorem xor_i64_comm (a b : Int) : bits BinOp.xor IntKind.i64 a b = bits BinOp.xor IntKind.i64 b a := by
  show IntKind.wrap .i64 ((BitVec.ofInt 64 a ^^^ BitVec.ofInt 64 b).toNat) = IntKind.wrap .i64 ((BitVec.ofInt 64 b ^^^ BitVec.ofInt 64 a).toNat)
  rw [BitVec.xor_comm]
theorem xor_i64_zero (a : Int) (h0 : 0 ≤ a) (h1 : a < 9223372036854775808) : bits BinOp.xor IntKind.i64 a 0 = a := by
  show IntKind.wrap .i64 ((BitVec.ofInt 64 a ^^^ BitVec.ofInt 64 0).toNat) = a
  rw [show BitVec.ofInt 64 0 = 0#64 from rfl, BitVec.xor_zero, BitVec.toNat_ofInt, IntKind.wrap_i64]; omega
theorem zig_xor (n : Int) (h0 : -9223372036854775808 ≤ n) (h1 : n ≤ 9223372036854775807) :
    bits BinOp.xor IntKind.u64 (IntKind.u64.wrap (IntKind.u64.wrap n * 2)) (IntKind.u64.wrap (n / 9223372036854775808)) = zigS n := by
  unfold zigS
  by_cases hn : n < 0
  · rw [if_pos hn]
    have e1 : IntKind.u64.wrap (n / 9223372036854775808) = 18446744073709551615 := by rw [IntKind.wrap_u64]; omega
    have e2 : IntKind.u64.wrap (IntKind.u64.wrap n * 2) = 2 * n + 18446744073709551616 := by rw [IntKind.wrap_u64, IntKind.wrap_u64]; omega
    rw [e1, e2, u64_xor _ _ (by omega) (by omega) (by omega) (by omega)]
    rw [show (18446744073709551615 : Int).toNat = 18446744073709551615 by decide, nat_xor_ones _ (by omega)]
    omega
  · rw [if_neg hn]
    have e1 : IntKind.u64.wrap (n / 9223372036854775808) = 0 := by rw [IntKind.wrap_u64]; omega
    have e2 : IntKind.u64.wrap (IntKind.u64.wrap n * 2) = 2 * n := by rw [IntKind.wrap_u64, IntKind.wrap_u64]; omega
    rw [e1, e2, u64_xor _ _ (by omega) (by omega) (by omega) (by omega)]
    simp; omega
theorem zag_xor (n : Int) (h0 : 0 ≤ n) (h1 : n < 18446744073709551616) :
    bits BinOp.xor IntKind.i64 (n / 2) (wrap64 (-wrap64 (bits BinOp.and IntKind.u64 n 1))) = zagS n := by
  have e0 : bits BinOp.and IntKind.u64 n 1 = n % 2 := by
    rw [u64_and _ _ h0 h1 (by omega) (by omega)]
    rw [show (1 : Int).toNat = 1 by decide, nat_mask1]; omega
  unfold zagS
  rw [e0]
  by_cases hn : n % 2 = 1
  · rw [if_pos hn, hn, show wrap64 (-wrap64 1) = -1 by simp [wrapI], xor_i64_comm]
    obtain ⟨m, hm⟩ := Int.eq_ofNat_of_zero_le (show 0 ≤ n / 2 by omega)
    rw [hm, i64_not m (by omega)]; omega
  · have hz : n % 2 = 0 := by omega
    rw [if_neg hn, hz, show wrap64 (-wrap64 0) = 0 by simp [wrapI], xor_i64_zero _ (by omega) (by omega)]
theorem zigS_bd (n : Int) (h0 : -9223372036854775808 ≤ n) (h1 : n ≤ 9223372036854775807) : 0 ≤ zigS n ∧ zigS n < 18446744073709551616 := by
  unfold zigS; split <;> omega
theorem zagS_bd (n : Int) (h0 : 0 ≤ n) (h1 : n < 18446744073709551616) : -9223372036854775808 ≤ zagS n ∧ zagS n ≤ 9223372036854775807 := by
  unfold zagS; split <;> omega
theorem zag_zig (n : Int) : zagS (zigS n) = n := by unfold zagS zigS; repeat' split <;> omega
theorem zig_zag (n : Int) (h0 : 0 ≤ n) : zigS (zagS n) = n := by unfold zagS zigS; repeat' split <;> omega
end Go.Proofs.Ytoakahofiodbhaa
